/- The law on texts of labels, walked: for whatever bytes came in it returns true and nothing that was there has changed. Condition: the table of letters lies as the program's text lays it. -/
import Derived.Test.YtmajmchiflggjaaDoorEFmt
import Derived.Test.YtmajmchiflggjaaDoorDF
import Derived.Test.YtmajmchiflggjaaDoorBend
import Derived.Test.YtmajmchiflggjaaDoorCt
namespace Go.Proofs.YtmajmchiflggjaaDoor
open Go.RowKit

theorem Lett_let8 {x : Int} (h : Lok3 x = true) : Lett ((let8 x).toNat : Int) = x := by
  have h4 : x = 0 ∨ x = 1 ∨ x = 2 ∨ x = 3 := by unfold Lok3 at h; simp at h; omega
  rcases h4 with rfl | rfl | rfl | rfl <;> rfl
theorem let8_Lett {c : UInt8} (h : 0 ≤ Lett (c.toNat : Int)) : let8 (Lett (c.toNat : Int)) = c ∧ Lok3 (Lett (c.toNat : Int)) = true := by
  have key : (c.toNat : Int) = 76 ∨ (c.toNat : Int) = 72 ∨ (c.toNat : Int) = 85 ∨ (c.toNat : Int) = 88 := by
    by_cases h0 : (c.toNat : Int) = 76
    · exact .inl h0
    by_cases h1 : (c.toNat : Int) = 72
    · exact .inr (.inl h1)
    by_cases h2 : (c.toNat : Int) = 85
    · exact .inr (.inr (.inl h2))
    by_cases h3 : (c.toNat : Int) = 88
    · exact .inr (.inr (.inr h3))
    rw [Lett_no h0 h1 h2 h3] at h
    omega
  have fin : ∀ d : UInt8, c.toNat = d.toNat → c = d := fun d e => UInt8.toNat_inj.1 e
  rcases key with k | k | k | k
  · obtain rfl := fin 76 (by simpa using Int.ofNat.inj k); exact ⟨rfl, rfl⟩
  · obtain rfl := fin 72 (by simpa using Int.ofNat.inj k); exact ⟨rfl, rfl⟩
  · obtain rfl := fin 85 (by simpa using Int.ofNat.inj k); exact ⟨rfl, rfl⟩
  · obtain rfl := fin 88 (by simpa using Int.ofNat.inj k); exact ⟨rfl, rfl⟩

theorem parse_L8 : ∀ xs : List Int, allOk xs = true → parseOk (L8 xs) = true ∧ Labs (L8 xs) = xs
  | [], _ => ⟨rfl, rfl⟩
  | x :: xs, h => by
    unfold allOk at h
    rw [List.all_cons, Bool.and_eq_true] at h
    obtain ⟨h1, h2⟩ := parse_L8 xs h.2
    have e := Lett_let8 h.1
    have hb := Lok3_bounds h.1
    constructor
    · show (decide (0 ≤ Lett ((let8 x).toNat : Int)) && parseOk (L8 xs)) = true
      rw [e, h1]; simp; omega
    · show Lett ((let8 x).toNat : Int) :: Labs (L8 xs) = x :: xs
      rw [e, h2]
theorem fmt_ok (xs : List Int) : parseOk (fmtL xs) = true := by
  unfold fmtL
  split
  · exact (parse_L8 xs ‹_›).1
  · rfl
theorem fmt_back (xs : List Int) (h : (fmtL xs).length = xs.length) : parseL (fmtL xs) = xs := by
  rw [parsed_ok (fmt_ok xs)]
  unfold fmtL at *
  split at h
  · rename_i h1; rw [if_pos h1]; exact (parse_L8 xs h1).2
  · rename_i h1; rw [if_neg h1]
    have : xs = [] := List.eq_nil_of_length_eq_zero (by simpa using h.symm)
    rw [this]; rfl
theorem labs_back : ∀ l : List UInt8, parseOk l = true → allOk (Labs l) = true ∧ L8 (Labs l) = l
  | [], _ => ⟨rfl, rfl⟩
  | c :: l, h => by
    unfold parseOk at h
    rw [List.all_cons, Bool.and_eq_true] at h
    obtain ⟨h1, h2⟩ := labs_back l h.2
    obtain ⟨e1, e2⟩ := let8_Lett (by simpa using h.1)
    constructor
    · show (Lok3 (Lett (c.toNat : Int)) && allOk (Labs l)) = true
      rw [e2, h1]; rfl
    · show let8 (Lett (c.toNat : Int)) :: L8 (Labs l) = c :: l
      rw [e1, h2]
theorem text_back (t : ByteArray) (h : parseOk t.data.toList = true) : (⟨(fmtL (parseL t.data.toList)).toArray⟩ : ByteArray) = t := by
  obtain ⟨h1, h2⟩ := labs_back _ h
  rw [parsed_ok h]
  unfold fmtL
  rw [h1, if_pos rfl, h2]
theorem fmt_len (xs : List Int) : (fmtL xs).length ≤ xs.length := by
  unfold fmtL L8
  split <;> simp

theorem IsRow.below {k : IntKind} {w w' : World} {a : Option Addr} {len cap : Nat} {zs : List Int} (h : IsRow k w a len cap zs) (hb : Below w.heap.size w w') : IsRow k w' a len cap zs := by
  rcases h with ⟨rfl, rfl, rfl, rfl⟩ | ⟨x, rfl, hlen, hcap, hz, hc, hw⟩
  · exact .inl ⟨rfl, rfl, rfl, rfl⟩
  · exact .inr ⟨x, rfl, hlen, hcap, hz, fun i hi => (hb.cell (p := x.add i) (World.block_lt_of_cell? w _ (hc i hi))).trans (hc i hi), hw⟩

/-- A drawn text. -/
def DrawnText (w : World) (e : Ending) (w' : World) : Prop := ∃ t : ByteArray, t.size ≤ 1000 ∧ e = .returned (.string t) ∧ Below w.heap.size w w'

def bits6 : List ByteArray := [⟨#[]⟩, ⟨#[76]⟩, ⟨#[104]⟩, ⟨#[88]⟩, ⟨#[32]⟩, ⟨#[65]⟩]
theorem bits6_cells (w : World) (t : TypeId) : Texts (w.alloc (.cells #[.string ⟨#[]⟩, .string ⟨#[76]⟩, .string ⟨#[104]⟩, .string ⟨#[88]⟩, .string ⟨#[32]⟩, .string ⟨#[65]⟩] t)) w.heap.size bits6 := by
  intro i hi
  have hi' : i < 6 := hi
  obtain rfl | rfl | rfl | rfl | rfl | rfl : i = 0 ∨ i = 1 ∨ i = 2 ∨ i = 3 ∨ i = 4 ∨ i = 5 := by omega
  all_goals simp [bits6]
theorem bits6_size (i : Nat) (hi : i < 6) : (bits6.getD i ByteArray.empty).size ≤ 1 := by
  obtain rfl | rfl | rfl | rfl | rfl | rfl : i = 0 ∨ i = 1 ∨ i = 2 ∨ i = 3 ∨ i = 4 ∨ i = 5 := by omega
  all_goals decide

set_option maxHeartbeats 1000000 in
theorem drawParse_one (a : Option Addr) (len cap : Nat) (zs : List Int) (w : World) (h : IsRow .u8 w a len cap zs) :
    Calls Tryd.prog 11 #[.slice a len cap] w (DrawnText w) := by
  have H := Lib.hid h
  clear h
  go_enter Tryd.func11, Tryd.ntmps11
  go_wp2_with fail
  refine (open_one a len cap zs _ H.out).mono ?_
  rintro e w1 ⟨a1, len1, cap1, rfl, hb1, hr1⟩
  have HB1 := Lib.hid hb1
  have HR1 := Lib.hid hr1
  have H1 := Lib.hid (H.out.below hb1)
  have hlt1 := hr1.lt
  clear hb1 hr1 H
  go_wp2_with fail
  refine (drawFormat_one a len cap zs _ H1.out).mono ?_
  rintro e w2 ⟨v2, xs, rfl, hO2, hx6, hb2⟩
  obtain ⟨a2, cap2, rfl⟩ := hO2.shape
  have HS2 := Lib.hid hO2.sl.2
  have HR2 := Lib.hid (HR1.out.below hb2 hlt1)
  have HB2 := Lib.hid (HB1.out.trans (hb2.mono (Nat.le_of_lt hlt1)))
  have hz2 := hb2.size
  clear hO2 hb2 HR1 HB1
  go_wp2_with fail
  refine (sFormat_one a2 xs.length cap2 xs _ HS2.out (by omega)).mono ?_
  rintro e w3 ⟨rfl, m3, hw3⟩
  have HR3 : Hid (Rd w3 w.heap.size 0 a1 len1 cap1) := by rw [hw3]; exact HR2.out.drewN m3
  have HB3 : Hid (Below w.heap.size w w3) := by rw [hw3]; exact Below.drewN' HB2.out m3
  have hlt3 := HR3.out.lt
  have hfl := fmt_len xs
  clear hw3 HR2 HB2 HS2
  obtain ⟨s, hs⟩ : ∃ s : ByteArray, (⟨(fmtL xs).toArray⟩ : ByteArray) = s := ⟨_, rfl⟩
  have hsz : s.size ≤ 6 := by rw [← hs]; simp [ByteArray.size]; omega
  rw [hs]
  clear hs
  go_wp2_with fail
  have hA : Below w3.heap.size w3 (w3.alloc (.cells #[.string ⟨#[]⟩, .string ⟨#[76]⟩, .string ⟨#[104]⟩, .string ⟨#[88]⟩, .string ⟨#[32]⟩, .string ⟨#[65]⟩] 9)) := (Below.refl _ _).alloc (Nat.le_refl _) _
  refine (bend_one w.heap.size 0 a1 len1 cap1 s w3.heap.size bits6 _ (HR3.out.below hA hlt3) (by omega) (by omega) (by omega) rfl bits6_size (bits6_cells w3 9)).mono ?_
  rintro e w4 ⟨t, ht, rfl, hb4⟩
  have HB4 := Lib.hid ((HB3.out.trans (hA.mono (Nat.le_of_lt hlt3))).trans hb4)
  clear hA hb4
  go_wp2_with fail
  go_ret
  exact ⟨t, by omega, rfl, HB4.out⟩

end Go.Proofs.YtmajmchiflggjaaDoor
