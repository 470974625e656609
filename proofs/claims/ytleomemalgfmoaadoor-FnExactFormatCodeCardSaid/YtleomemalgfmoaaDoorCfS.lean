/- spec's l6Line, walked: at an instruction whose operation is one and whose fields are from 0 to 400 it returns the text; nothing that was there has changed. -/
import Derived.Test.YtleomemalgfmoaaDoorCoT
import Derived.Test.YtleomemalgfmoaaDoorCvS
import Derived.Test.YtleomemalgfmoaaDoorDec
namespace Go.Proofs.YtleomemalgfmoaaDoor
open Go.RowKit
set_option linter.unusedVariables false

set_option maxHeartbeats 4000000 in
theorem l6Names_one (w : World) :
    Calls Tryd.prog 58 #[] w fun e w' => ∃ b, e = .returned (.slice (some ⟨b, 0, none⟩) 14 14) ∧ (∀ p, p < 14 → w'.cell? ⟨b, p, none⟩ = some (.string ⟨(nmT p).toArray⟩)) ∧ Below w.heap.size w w' := by
  go_enter Tryd.func58, Tryd.ntmps58
  go_wp2_with fail
  go_ret
  have h := heap_alloc_new w (.cells #[.string ⟨#[]⟩, .string ⟨#[99, 111, 110, 115, 116]⟩, .string ⟨#[103, 101, 116]⟩, .string ⟨#[112, 117, 116]⟩, .string ⟨#[108, 111, 97, 100]⟩, .string ⟨#[115, 116, 111, 114, 101]⟩, .string ⟨#[98, 105, 110]⟩, .string ⟨#[115, 101, 108, 101, 99, 116]⟩, .string ⟨#[106, 117, 109, 112]⟩, .string ⟨#[122, 101, 114, 111]⟩, .string ⟨#[108, 111, 111, 112]⟩, .string ⟨#[114, 101, 108, 101, 97, 115, 101]⟩, .string ⟨#[102, 101, 110, 99, 101]⟩, .string ⟨#[104, 97, 108, 116]⟩] 9)
  refine ⟨w.heap.size, rfl, fun p hp => ?_, (Below.refl _ _).alloc (Nat.le_refl _) _⟩
  rw [cell_of_row _ _ _ _ _ _ h]
  match p, hp with
  | 0, _ => rfl
  | 1, _ => rfl
  | 2, _ => rfl
  | 3, _ => rfl
  | 4, _ => rfl
  | 5, _ => rfl
  | 6, _ => rfl
  | 7, _ => rfl
  | 8, _ => rfl
  | 9, _ => rfl
  | 10, _ => rfl
  | 11, _ => rfl
  | 12, _ => rfl
  | 13, _ => rfl

theorem insP_stop (x : Ins) (op : Nat) (ho : x.op = op) : ∀ j d, (kdL.getD op []).length ≤ j → insP x (j + d) = insP x j
  | j, 0, _ => rfl
  | j, d + 1, h => by
    rw [← Nat.add_assoc, insP, insP_stop x op ho j d h]
    have e : fldT x (j + d) = [] := by
      unfold fldT
      rw [ho, show ((op : Nat) : Int).toNat = op from by simp, kdL_none op (j + d) (by omega)]
      rfl
    rw [e, List.append_nil]

set_option maxRecDepth 100000 in
set_option maxHeartbeats 4000000 in
theorem l6Line_one (x : Ins) (w : World) (h1 : 1 ≤ x.op) (h13 : x.op ≤ 13) (hp : ∀ j, j < 4 → 0 ≤ x.part j ∧ x.part j ≤ 400) :
    Calls Tryd.prog 33 #[.agg #[.int .i64 x.op, .int .i64 x.fa, .int .i64 x.fb, .int .i64 x.fc, .int .i64 x.fd]] w (Txt (insT x) w) := by
  obtain ⟨op, hop⟩ : ∃ op : Nat, x.op = op := ⟨x.op.toNat, by omega⟩
  have hl := insP_len hp
  obtain ⟨x0, hx⟩ : ∃ x0 : Ins, x0 = x := ⟨_, rfl⟩
  have HX := Lib.hid hx
  rw [← hx] at hp hl
  have HP := Lib.hid hp
  have HLEN := Lib.hid hl
  have HOP : Hid (x0.op = op) := by
    have : x0.op = op := by rw [hx, hop]
    exact this
  have HFIN : Hid (∀ l, l = insT x0 → l = insT x) := fun l h => by rw [h, HX.out]
  have HQ : Hid (x.fa = x0.part 0 ∧ x.fb = x0.part 1 ∧ x.fc = x0.part 2 ∧ x.fd = x0.part 3) := by
    have : x.fa = x0.part 0 ∧ x.fb = x0.part 1 ∧ x.fc = x0.part 2 ∧ x.fd = x0.part 3 := by rw [hx]; exact ⟨rfl, rfl, rfl, rfl⟩
    exact this
  obtain ⟨xop, fa, fb, fc, fd⟩ := x
  simp only at hop h1 h13
  subst hop
  clear hx hp hl
  have h14 : op < 14 := by omega
  have hi0 : (0 : Int) ≤ (op : Int) := by omega
  have hi1 : (op : Int) < 14 := by omega
  have HB := Lib.hid ((Below.refl w.heap.size w).alloc (Nat.le_refl _) (.cells #[.int .i64 op, .int .i64 fa, .int .i64 fb, .int .i64 fc, .int .i64 fd] 57))
  have hix := heap_alloc_new w (.cells #[.int .i64 op, .int .i64 fa, .int .i64 fb, .int .i64 fc, .int .i64 fd] 57)
  have HIX := Lib.hid hix
  clear hix
  go_enter Tryd.func33, Tryd.ntmps33
  go_wp2_with fail
  obtain ⟨W, hW⟩ : ∃ W, w.alloc (.cells #[.int .i64 op, .int .i64 fa, .int .i64 fb, .int .i64 fc, .int .i64 fd] 57) = W := ⟨_, rfl⟩
  rw [hW] at HB HIX ⊢
  clear hW
  have HI : Hid (∀ v, Below W.heap.size W v → v.cell? ⟨w.heap.size, 0, none⟩ = some (.int .i64 op) ∧ v.cell? ⟨w.heap.size, 1, none⟩ = some (.int .i64 fa) ∧ v.cell? ⟨w.heap.size, 2, none⟩ = some (.int .i64 fb) ∧ v.cell? ⟨w.heap.size, 3, none⟩ = some (.int .i64 fc) ∧ v.cell? ⟨w.heap.size, 4, none⟩ = some (.int .i64 fd)) := fun v hv => by
    have r := (hv.block w.heap.size (Array.getElem?_eq_some_iff.1 HIX.out).1).trans HIX.out
    exact ⟨by rw [cell_of_row _ _ _ _ _ _ r]; rfl, by rw [cell_of_row _ _ _ _ _ _ r]; rfl, by rw [cell_of_row _ _ _ _ _ _ r]; rfl, by rw [cell_of_row _ _ _ _ _ _ r]; rfl, by rw [cell_of_row _ _ _ _ _ _ r]; rfl⟩
  obtain ⟨i0, _⟩ := HI.out W (Below.refl _ _)
  go_region_with (go_at_call 58; refine (l6Names_one _).mono ?_; rintro e w1 ⟨nb, rfl, hnm, hb1⟩; have hn1 := hnm op h14; have HB1 : Hid (Below W.heap.size W w1) := ((Below.refl _ _).drew.trans hb1); have hj0 := (HI.out w1 HB1.out).1; clear hnm hb1)
  all_goals
    clear i0 hj0
    obtain ⟨i0, _⟩ := HI.out w1 HB1.out
    go_wp2_with fail
    refine (l6Fields_one op (by omega) w1).mono ?_
    rintro e w2 ⟨rfl, hb2⟩
    have HB2 := Lib.hid (HB1.out.trans (hb2.mono HB1.out.size))
    obtain ⟨j0, j1, j2, j3, j4⟩ := HI.out w2 HB2.out
    obtain ⟨s, hs⟩ : ∃ s, fsB op = s := ⟨_, rfl⟩
    rw [hs]
    have hsz : s.size ≤ 4 := by rw [← hs, fsB_size]; exact kdL_len op
    have HST : Hid (insP x0 4 = insP x0 s.size) := by
      have : insP x0 4 = insP x0 s.size := by
        have h9 := insP_stop x0 op HOP.out s.size (4 - s.size) (by rw [← hs, fsB_size]; exact Nat.le_refl _)
        rw [← h9]
        congr 1
        omega
      exact this
    have HPOS : Hid (∀ j, j < s.size → fldT x0 j = 32 :: Lib.decDigits (x0.part j).toNat) := fun j hj => by
      unfold fldT
      have := kdL_pos op j (by rw [← fsB_size, hs]; exact hj)
      rw [HOP.out, show ((op : Nat) : Int).toNat = op from by simp, if_neg (by omega)]
    clear hs hb2 i0 hn1
    go_wp2_with fail
    refine (l6Parts_one ⟨op, fa, fb, fc, fd⟩ w2).mono ?_
    rintro e w3 ⟨pb, rfl, hr3, hle, hb3⟩
    have HB3 := Lib.hid (HB2.out.trans (hb3.mono HB2.out.size))
    have HR : Hid (∀ v, Below w3.heap.size w3 v → ∀ j, j < 4 → v.cell? ⟨pb, j, none⟩ = some (.int .i64 (x0.part j))) := fun v hv j hj => by
      have r := (hr3.below hv hr3.lt).at j hj
      rw [r, HX.out]
    have hnl := nmT_len op
    have HN0 : Hid (nmT op = insP x0 0) := by
      have : nmT op = insP x0 0 := by rw [insP, HOP.out, show ((op : Nat) : Int).toNat = op from by simp]
      exact this
    clear hr3 hle hb3 j0 j1 j2 j3 j4
    go_wp2_with fail
    rw [HN0.out]
    go_loopw [3, 6] (fun o i wr => ∃ k : Nat, k ≤ s.size ∧ i = .int .i64 k ∧ o = .string ⟨(insP x0 k).toArray⟩ ∧ Below w3.heap.size w3 wr) (fun _ i _ => s.size - (intOf i).toNat)
    case atStart => exact ⟨0, Nat.zero_le _, rfl, rfl, Below.refl _ _⟩
    case round =>
      obtain ⟨k, hk, rfl, rfl, hb⟩ := hrel
      have HBR := Lib.hid hb
      have hlen := HLEN.out k (by omega)
      obtain ⟨t, ht⟩ : ∃ t, insP x0 k = t := ⟨_, rfl⟩
      rw [ht] at hlen ⊢
      have HT := Lib.hid ht
      clear hb ht
      by_cases hlt : k < s.size
      · have c0 := HR.out wr HBR.out k (by omega)
        obtain ⟨v, hv⟩ : ∃ v : Nat, x0.part k = v := ⟨(x0.part k).toNat, by have := (HP.out k (by omega)).1; omega⟩
        have hv4 : v ≤ 400 := by have := (HP.out k (by omega)).2; omega
        rw [hv] at c0
        have hdl := dec_len400 v hv4
        have HE : Hid (insP x0 (k + 1) = t ++ (32 :: Lib.decDigits v)) := by
          have : insP x0 (k + 1) = t ++ (32 :: Lib.decDigits v) := by rw [insP, HPOS.out k hlt, HT.out, hv]; simp
          exact this
        obtain ⟨dd, hdd⟩ : ∃ dd, Lib.decDigits v = dd := ⟨_, rfl⟩
        rw [hdd] at hdl HE
        have HDD := Lib.hid hdd
        have hl1 : ¬ 9223372036854775807 < t.length + 1 := by omega
        have hl2 : ¬ 9223372036854775807 < t.length + 1 + dd.length := by omega
        have hszr := HBR.out.size
        clear hv hdd
        go_wp2_with fail
        refine (l17Dec_one v (by omega) wr).mono ?_
        rintro e w4 ⟨rfl, hb4⟩
        rw [HDD.out]
        have HB4 : Hid (Below w3.heap.size w3 w4) := HBR.out.trans (hb4.mono hszr)
        clear hb4
        go_wp2_with fail
        go_roundw
        case rel => exact ⟨k + 1, by omega, by go_num, by rw [HE.out]; exact congrArg Value.string (by rw [cat_arr, cat_arr]; simp), HB4.out⟩
        case measure => simp [intOf]; omega
      · obtain rfl : k = s.size := by omega
        have HE : Hid (t ++ [10] = insT x0) := by
          have : t ++ [10] = insT x0 := by rw [insT, HST.out, HT.out]
          exact this
        have hl1 : ¬ 9223372036854775807 < t.length + 1 := by omega
        go_wp2_with fail
        go_ret
        refine ⟨?_, HB.out.trans ((HB3.out.trans (HBR.out.mono HB3.out.size)).mono HB.out.size)⟩
        have e10 := HFIN.out _ HE.out
        rw [← e10]
        exact congrArg (fun b => Ending.returned (Value.string b)) (cat_arr t [10])

end Go.Proofs.YtleomemalgfmoaaDoor
