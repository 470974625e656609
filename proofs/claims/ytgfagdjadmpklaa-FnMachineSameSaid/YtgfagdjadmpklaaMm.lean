/- Memories (a list of ints and a list of lists of ints) as they lie in a world; the exact laws' helpers on them: szMemory measures, toMemory makes a copy, eqMemory answers whether two are equal. Nothing that was there changes. -/
import Derived.Test.YtgfagdjadmpklaaEvB
import Derived.Test.YtgfagdjadmpklaaSl
namespace Go.Proofs.Ytgfagdjadmpklaa
open Go.RowKit
set_option linter.unusedVariables false

/-- A list of ints in blocks of D. -/
def IAt (w : World) (D : Nat → Prop) (xs : List Int) (a : Option Addr) : Prop :=
  xs.length ≤ maxLen ∧ ∀ k, k < xs.length → ∃ b o, a = some ⟨b, o, none⟩ ∧ D b ∧ w.cell? ⟨b, o + k, none⟩ = some (.int .i64 (xs.getD k 0))
theorem IAt.wide {w w' : World} {D D' : Nat → Prop} {xs : List Int} {a : Option Addr} (h : IAt w D xs a) (hb : ∀ k, D k → w'.heap[k]? = w.heap[k]?) (hl : ∀ k, D k → D' k) : IAt w' D' xs a :=
  ⟨h.1, fun k hk => by
    obtain ⟨b, o, ha, hd, hc⟩ := h.2 k hk
    exact ⟨b, o, ha, hl b hd, (World.cell?_of_block (w := w) (hb b hd)).trans hc⟩⟩
theorem IAt.slice {w : World} {D : Nat → Prop} {xs : List Int} {a : Option Addr} (h : IAt w D xs a) : SliceI w a xs.length xs := ⟨h.1, rfl, fun k hk => by
  obtain ⟨b, o, ha, _, hc⟩ := h.2 k hk
  exact ⟨b, o, ha, hc⟩⟩
theorem OwnI.iat {w : World} {base : Nat} {v : Value} {xs : List Int} (h : OwnI w base v xs) : ∃ a cap, v = .slice a xs.length cap ∧ IAt w (fun k => base ≤ k ∧ k < w.heap.size) xs a := by
  have h' := h
  rcases h.2 with ⟨rfl, h2⟩ | ⟨g, cap, cur, rfl, hb, hg, hn, hm, _⟩
  · have : xs = [] := by simpa using h2
    subst this
    exact ⟨none, 0, rfl, by unfold maxLen; simp, fun k hk => by simp at hk⟩
  · refine ⟨_, cap, rfl, Nat.le_trans hn hm, fun k hk => ⟨g, 0, rfl, ⟨hb, (Array.getElem?_eq_some_iff.1 hg).1⟩, ?_⟩⟩
    have := World.ownsRow.cellAt h' k (by simpa using hk)
    rw [Nat.zero_add, this]
    simp [List.getD, hk]

/-- A list of lists of ints in blocks of D. -/
def RAt (w : World) (D : Nat → Prop) (xss : List (List Int)) (a : Option Addr) : Prop :=
  xss.length ≤ maxLen ∧ ∀ (i : Nat) (xs : List Int), xss[i]? = some xs → ∃ b o a' c', a = some ⟨b, o, none⟩ ∧ D b ∧ w.cell? ⟨b, o + i, none⟩ = some (.slice a' xs.length c') ∧ IAt w D xs a'
theorem RAt.wide {w w' : World} {D D' : Nat → Prop} {xss : List (List Int)} {a : Option Addr} (h : RAt w D xss a) (hb : ∀ k, D k → w'.heap[k]? = w.heap[k]?) (hl : ∀ k, D k → D' k) : RAt w' D' xss a :=
  ⟨h.1, fun i xs hx => by
    obtain ⟨b, o, a', c', ha, hd, hc, hr⟩ := h.2 i xs hx
    exact ⟨b, o, a', c', ha, hl b hd, (World.cell?_of_block (w := w) (hb b hd)).trans hc, hr.wide hb hl⟩⟩

structure Mm where
  vals : List Int
  arrs : List (List Int)
deriving DecidableEq
structure MC where
  va : Option Addr
  vc : Nat
  aa : Option Addr
  ac : Nat
abbrev arrM (m : Mm) (k : MC) : Array Value := #[.slice k.va m.vals.length k.vc, .slice k.aa m.arrs.length k.ac]
abbrev aggM (m : Mm) (k : MC) : Value := .agg #[.slice k.va m.vals.length k.vc, .slice k.aa m.arrs.length k.ac]
/-- A memory lies in the world. -/
def ML (w : World) (m : Mm) (k : MC) : Prop := IAt w (fun b => b < w.heap.size) m.vals k.va ∧ RAt w (fun b => b < w.heap.size) m.arrs k.aa
theorem ML.below {w w' : World} {m : Mm} {k : MC} (h : ML w m k) (hb : Below w.heap.size w w') : ML w' m k :=
  ⟨h.1.wide (fun j hj => hb.block j hj) fun j hj => Nat.lt_of_lt_of_le hj hb.size, h.2.wide (fun j hj => hb.block j hj) fun j hj => Nat.lt_of_lt_of_le hj hb.size⟩
/-- Every list of it is short. -/
def MSm (m : Mm) : Prop := m.vals.length ≤ 1048576 ∧ m.arrs.length ≤ 1048576 ∧ ∀ (i : Nat) (xs : List Int), m.arrs[i]? = some xs → xs.length ≤ 1048576

/-! ### Measuring -/
def MSized (p : Prop) (left : Int) (w : World) (e : Ending) (w' : World) : Prop := ∃ v : Int, e = .returned (.int .i64 v) ∧ v ≤ left ∧ (0 ≤ v → p) ∧ Below w.heap.size w w'

set_option maxHeartbeats 1000000 in
theorem szI_one (a : Option Addr) (n cap : Nat) (left : Int) (w : World) (h0 : 0 ≤ left) (h1 : left ≤ 1048576) (hn : n ≤ maxLen) :
    Calls Try.prog 60 #[.slice a n cap, .int .i64 left] w (EvSized n left w) := by
  unfold maxLen at hn
  by_cases hneg : left < n
  · go_enter Try.func60, Try.ntmps60
    go_wp2_with fail
    go_ret
    exact ⟨-1, rfl, by omega, fun h => absurd h (by omega), rfl⟩
  · go_enter Try.func60, Try.ntmps60
    go_wp2_with fail
    go_ret
    exact ⟨left - n, rfl, by omega, fun _ => by omega, rfl⟩

def ShortTo (xss : List (List Int)) (k : Nat) : Prop := ∀ (i : Nat) (xs : List Int), i < k → xss[i]? = some xs → xs.length ≤ 1048576

set_option maxHeartbeats 2000000 in
theorem szRows_one (xss : List (List Int)) (a : Option Addr) (cap : Nat) (left : Int) (w : World) (D : Nat → Prop) (h : RAt w D xss a) (h0 : 0 ≤ left) (h1 : left ≤ 1048576) :
    Calls Try.prog 69 #[.slice a xss.length cap, .int .i64 left] w (fun e w' => ∃ v : Int, e = .returned (.int .i64 v) ∧ v ≤ left ∧ (0 ≤ v → xss.length ≤ 1048576 ∧ ShortTo xss xss.length) ∧ w' = w) := by
  obtain ⟨hm, h⟩ := h
  unfold maxLen at hm
  obtain ⟨len, hlen⟩ : ∃ len, xss.length = len := ⟨_, rfl⟩
  have HLEN := Lib.hid hlen
  rw [hlen] at hm ⊢
  have H := Lib.hid h
  clear h hlen
  by_cases hneg : left < len
  · go_enter Try.func69, Try.ntmps69
    go_wp2_with fail
    go_ret
    exact ⟨-1, rfl, by omega, fun h => absurd h (by omega), rfl⟩
  · go_enter Try.func69, Try.ntmps69
    go_wp2_with fail
    go_loop [1, 5] (fun l i => ∃ k : Nat, ∃ v : Int, k ≤ len ∧ i = .int .i64 k ∧ l = .int .i64 v ∧ 0 ≤ v ∧ v ≤ left ∧ ShortTo xss k) (fun _ i => len - (intOf i).toNat)
    case atStart => exact ⟨0, left - len, Nat.zero_le _, rfl, rfl, by omega, by omega, fun i xs hi => absurd hi (Nat.not_lt_zero _)⟩
    case round =>
      obtain ⟨k, v, hk, rfl, rfl, hv0, hv1, hS⟩ := hrel
      have HS := Lib.hid hS
      clear hS
      by_cases hlt : k < len
      · obtain ⟨x, hx⟩ : ∃ x, xss[k]? = some x := ⟨xss[k]'(by rw [HLEN.out]; exact hlt), List.getElem?_eq_getElem _⟩
        obtain ⟨b, o, a', c', rfl, _, e0, hr⟩ := H.out k x hx
        have hxl := hr.1
        have HX := Lib.hid hx
        clear hx hr
        go_wp2_with fail
        refine (szI_one a' x.length c' v _ hv0 (by omega) hxl).mono ?_
        rintro f w2 ⟨u, rfl, hu, hs, rfl⟩
        by_cases hu0 : u < 0
        · go_wp2_with fail
          go_ret
          exact ⟨-1, rfl, by omega, fun h => absurd h (by omega), rfl⟩
        · have HS2 : Hid (ShortTo xss (k + 1)) := fun i xs hi hxs => by
            by_cases hik : i = k
            · subst hik
              rw [HX.out] at hxs
              cases hxs
              have := hs (by omega)
              omega
            · exact HS.out i xs (by omega) hxs
          clear hs
          go_wp2_with fail
          go_round
          case rel => exact ⟨k + 1, u, by omega, by go_num, rfl, by omega, by omega, HS2.out⟩
          case measure => simp [intOf]; omega
      · obtain rfl : k = len := by omega
        clear H
        go_wp2_with fail
        go_ret
        exact ⟨v, rfl, hv1, fun _ => ⟨by omega, HS.out⟩, rfl⟩

/-! ### Boxes -/
def BoxM (w : World) (b : Nat) (m : Mm) (k : MC) : Prop := ∃ T, w.heap[b]? = some (.cells (arrM m k) T (0, 0))
theorem cellAtM {w : World} {b : Nat} {cs : Array Value} {T : TypeId} {fr : Nat × Nat} (h : w.heap[b]? = some (.cells cs T fr)) (o : Nat) : w.cell? ⟨b, o, none⟩ = cs[o]? := cell_of_row w b o cs T fr h
theorem BoxM.new (w : World) (m : Mm) (k : MC) (T : TypeId) : BoxM (w.alloc (.cells (arrM m k) T)) w.heap.size m k := ⟨T, heap_alloc_new w _⟩
theorem BoxM.later {w w' : World} {b : Nat} {m : Mm} {k : MC} (h : BoxM w b m k) (hb : w'.heap[b]? = w.heap[b]?) : BoxM w' b m k := by obtain ⟨T, h⟩ := h; exact ⟨T, hb.trans h⟩
theorem BoxM.below {w w' : World} {b B : Nat} {m : Mm} {k : MC} (h : BoxM w b m k) (hb : Below B w w') (hlt : b < B) : BoxM w' b m k := h.later (hb.block b hlt)
theorem BoxM.lt {w : World} {b : Nat} {m : Mm} {k : MC} (h : BoxM w b m k) : b < w.heap.size := by obtain ⟨T, h⟩ := h; exact (Array.getElem?_eq_some_iff.1 h).1
theorem BoxM.c0 {w : World} {b : Nat} {m : Mm} {k : MC} (h : BoxM w b m k) : w.cell? ⟨b, 0, none⟩ = some (.slice k.va m.vals.length k.vc) := by obtain ⟨T, h⟩ := h; rw [cellAtM h]; rfl
theorem BoxM.c1 {w : World} {b : Nat} {m : Mm} {k : MC} (h : BoxM w b m k) : w.cell? ⟨b, 1, none⟩ = some (.slice k.aa m.arrs.length k.ac) := by obtain ⟨T, h⟩ := h; rw [cellAtM h]; rfl

set_option maxHeartbeats 2000000 in
/-- **szMemory.** -/
theorem szM_one (m : Mm) (k : MC) (left : Int) (w : World) (h : ML w m k) (h0 : 0 ≤ left) (h1 : left ≤ 1048576) :
    Calls Try.prog 28 #[aggM m k, .int .i64 left] w (MSized (MSm m) left w) := by
  have hv := h.1.1
  have HR : Hid (∀ v, Below w.heap.size w v → ML v m k) := fun v hv => h.below hv
  clear h
  have HBX := Lib.hid (BoxM.new w m k 58)
  have HW := Lib.hid ((Below.refl w.heap.size w).alloc (Nat.le_refl _) (.cells (arrM m k) 58))
  go_enter Try.func28, Try.ntmps28
  go_wp2_with fail
  obtain ⟨W, hW⟩ : ∃ W, w.alloc (.cells (arrM m k) 58) = W := ⟨_, rfl⟩
  unfold arrM at hW
  rw [hW] at HBX HW ⊢
  clear hW
  have y1 := HBX.out.c1
  refine (szI_one k.va m.vals.length k.vc left W h0 h1 hv).mono ?_
  rintro f w1 ⟨v1, rfl, hv1', hs1, rfl⟩
  by_cases hn1 : v1 < 0
  · go_wp2_with fail
    go_ret
    exact ⟨-1, rfl, by omega, fun h => absurd h (by omega), HW.out⟩
  go_wp2_with fail
  refine (szRows_one m.arrs k.aa k.ac v1 _ _ (HR.out _ HW.out).2 (by omega) (by omega)).mono ?_
  rintro f w2 ⟨v2, rfl, hv2', hs2, rfl⟩
  have HS2 := Lib.hid hs2
  clear hs2
  by_cases hn2 : v2 < 0
  · go_wp2_with fail
    go_ret
    exact ⟨-1, rfl, by omega, fun h => absurd h (by omega), HW.out⟩
  go_wp2_with fail
  go_ret
  refine ⟨v2, rfl, by omega, fun _ => ⟨?_, (HS2.out (by omega)).1, fun i xs hx => (HS2.out (by omega)).2 i xs (List.getElem?_eq_some_iff.1 hx).1 hx⟩, HW.out⟩
  have := hs1 (by omega)
  omega

end Go.Proofs.Ytgfagdjadmpklaa
