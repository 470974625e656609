/- The model's l8Next: the numbers of the instructions that may follow, in a new row. -/
import Derived.Test.YtbifbmpflhdijaaDoorRcP
import Derived.Test.YtbifbmpflhdijaaDoorCvU
import Derived.Test.YtbifbmpflhdijaaDoorPut
namespace Go.Proofs.YtbifbmpflhdijaaDoor
open Go.RowKit
set_option linter.unusedVariables false

def natI (q : List Nat) : List Int := q.map fun (n : Nat) => (n : Int)
theorem natI_len (q : List Nat) : (natI q).length = q.length := by simp [natI]
theorem natI_app (q r : List Nat) : natI (q ++ r) = natI q ++ natI r := by simp [natI]
theorem natI_at {q : List Nat} {t p : Nat} (h : q[t]? = some p) : (natI q).getD t 0 = (p : Int) := by simp [natI, List.getD, h]

/-- What follows, as the model lists it. -/
def folS (x : Ins) (i : Nat) : List Int := if x.op = 13 then [] else if x.op = 8 then [x.fa] else if x.op = 9 ∨ x.op = 10 then [(i : Int) + 1, x.fb] else [(i : Int) + 1]
theorem folS_mem {l : List Ins} (h : Okc l) {i : Nat} {x : Ins} (hx : l[i]? = some x) (j : Int) : j ∈ folS x i ↔ ∃ n : Nat, j = n ∧ n ∈ folN x i := by
  unfold folS folN
  by_cases h13 : x.op = 13
  · rw [if_pos h13, if_neg (by omega), if_neg (by omega), if_pos h13]; simp
  rw [if_neg h13]
  by_cases h8 : x.op = 8
  · have h1 := h.ja i x hx h8
    rw [if_pos h8, if_pos h8]
    constructor
    · intro e
      rw [List.mem_singleton] at e
      exact ⟨x.fa.toNat, by omega, by simp⟩
    · rintro ⟨n, e1, e2⟩
      rw [List.mem_singleton] at e2 ⊢
      omega
  rw [if_neg h8, if_neg h8]
  by_cases h9 : x.op = 9 ∨ x.op = 10
  · have h1 := h.jb i x hx h9
    rw [if_pos h9, if_pos h9]
    constructor
    · intro e
      rcases List.mem_cons.1 e with e | e
      · exact ⟨i + 1, by omega, by simp⟩
      · rw [List.mem_singleton] at e
        exact ⟨x.fb.toNat, by omega, by simp⟩
    · rintro ⟨n, e1, e2⟩
      rcases List.mem_cons.1 e2 with e | e
      · have e3 : j = x.fb := by omega
        rw [e3]; simp
      · rw [List.mem_singleton] at e
        have e3 : j = (i : Int) + 1 := by omega
        rw [e3]; simp
  · rw [if_neg h9, if_neg h9, if_neg h13]
    constructor
    · intro e
      rw [List.mem_singleton] at e
      exact ⟨i + 1, by omega, by simp⟩
    · rintro ⟨n, e1, e2⟩
      rw [List.mem_singleton] at e2 ⊢
      omega
theorem folS_13 {x : Ins} {i : Nat} (h : (x.op == 13) = true) : folS x i = [] := by unfold folS; rw [if_pos (by simpa using h)]
theorem folS_8 {x : Ins} {i : Nat} (h : (x.op == 13) = false) (h8 : (x.op == 8) = true) : folS x i = [x.fa] := by unfold folS; rw [if_neg (by simpa using h), if_pos (by simpa using h8)]
theorem folS_9 {x : Ins} {i : Nat} (h : (x.op == 13) = false) (h8 : (x.op == 8) = false) (h9 : (x.op == 9) = true) : folS x i = [(i : Int) + 1, x.fb] := by unfold folS; rw [if_neg (by simpa using h), if_neg (by simpa using h8), if_pos (.inl (by simpa using h9))]
theorem folS_10 {x : Ins} {i : Nat} (h : (x.op == 13) = false) (h8 : (x.op == 8) = false) (h9 : (x.op == 10) = true) : folS x i = [(i : Int) + 1, x.fb] := by unfold folS; rw [if_neg (by simpa using h), if_neg (by simpa using h8), if_pos (.inr (by simpa using h9))]
theorem folS_n {x : Ins} {i : Nat} (h : (x.op == 13) = false) (h8 : (x.op == 8) = false) (h9 : (x.op == 9) = false) (h10 : (x.op == 10) = false) : folS x i = [(i : Int) + 1] := by
  have a9 : ¬ x.op = 9 := by simpa using h9
  have a10 : ¬ x.op = 10 := by simpa using h10
  unfold folS; rw [if_neg (by simpa using h), if_neg (by simpa using h8), if_neg (by omega)]
theorem folS_len (x : Ins) (i : Nat) : (folS x i).length ≤ 2 := by
  unfold folS; split
  · simp
  split
  · simp
  split <;> simp

/-- A list of ints is handed back in a new row. -/
def IntsNew (xs : List Int) (w : World) (e : Ending) (w' : World) : Prop := ∃ a c, e = .returned (.slice a xs.length c) ∧ OwnI w' w.heap.size (.slice a xs.length c) xs ∧ Below w.heap.size w w'
theorem IntsNew.lit {w W : World} {xs : List Int} {B : Nat} (hB : W.heap.size = B) (hb : Below w.heap.size w W) (hn : xs.length ≤ 1000) : IntsNew xs w (.returned (.slice (some ⟨B, 0, none⟩) xs.length xs.length)) (W.alloc (.cells (xs.map (Value.int .i64)).toArray 3)) := by
  subst hB
  refine ⟨_, _, rfl, ⟨by simp, .inr ⟨W.heap.size, xs.length, _, rfl, hb.size, heap_alloc_new W _, Nat.le_refl _, by unfold maxLen; omega, by simp, by simp; exact List.take_of_length_le (by simp)⟩⟩, hb.alloc hb.size _⟩

set_option maxRecDepth 100000 in
set_option maxHeartbeats 4000000 in
theorem l8Next_one (m : Cd) (k : CK) (i : Nat) (x : Ins) (w : World) (h : CL w m k) (hx : m.list[i]? = some x) (hi400 : i < 400) :
    Calls Tryd.prog 96 #[aggC m k, .int .i64 (i : Int)] w (IntsNew (folS x i) w) := by
  have hlt := (List.getElem?_eq_some_iff.1 hx).1
  obtain ⟨y, b, o, hy, ha, hbl, e0, e1, e2, e3, e4⟩ := h.at hlt
  rw [hx] at hy
  cases hy
  obtain ⟨W, hW⟩ : ∃ W, w.alloc (.cells (arrC m k) 29) = W := ⟨_, rfl⟩
  have hB : Below w.heap.size w W := by rw [← hW]; exact (Below.refl _ w).alloc (Nat.le_refl _) _
  have hX : BoxC W w.heap.size m k := by rw [← hW]; exact BoxC.new _ _ _ _
  have hz : W.heap.size = w.heap.size + 1 := by rw [← hW]; simp
  obtain ⟨n, hn⟩ : ∃ n, m.list.length = n := ⟨_, rfl⟩
  have c2 := hX.c2
  rw [ha, hn] at c2
  rw [hn] at hlt
  have r0 := (hB.cell (p := ⟨b, o + i * 5, none⟩) hbl).trans e0
  have r1 := (hB.cell (p := ⟨b, o + i * 5 + 1, none⟩) hbl).trans e1
  have r2 := (hB.cell (p := ⟨b, o + i * 5 + 2, none⟩) hbl).trans e2
  have r3 := (hB.cell (p := ⟨b, o + i * 5 + 3, none⟩) hbl).trans e3
  have r4 := (hB.cell (p := ⟨b, o + i * 5 + 4, none⟩) hbl).trans e4
  have HW := Lib.hid hW
  have HB := Lib.hid hB
  have HZ := Lib.hid hz
  clear h hx ha e0 e1 e2 e3 e4 hB hX hW hz hn hbl
  go_enter Tryd.func96, Tryd.ntmps96
  unfold arrC at HW
  go_wp2_with (first | rw [HW.out] | fail)
  · have h13 : (x.op == 13) = true := by assumption
    rw [folS_13 h13]
    go_ret
    exact IntsNew.lit (by simp) (HB.out.alloc HB.out.size _) (by simp)
  · have h13 : (x.op == 13) = false := by assumption
    have h8 : (x.op == 8) = true := by assumption
    rw [folS_8 h13 h8]
    go_ret
    exact IntsNew.lit (by simp) (HB.out.alloc HB.out.size _) (by simp)
  · have h13 : (x.op == 13) = false := by assumption
    have h8 : (x.op == 8) = false := by assumption
    have h9 : (x.op == 9) = true := by assumption
    rw [folS_9 h13 h8 h9]
    go_ret
    exact IntsNew.lit (by simp) (HB.out.alloc HB.out.size _) (by simp)
  · have h13 : (x.op == 13) = false := by assumption
    have h8 : (x.op == 8) = false := by assumption
    have h9 : (x.op == 10) = true := by assumption
    rw [folS_10 h13 h8 h9]
    go_ret
    exact IntsNew.lit (by simp) (HB.out.alloc HB.out.size _) (by simp)
  · have h13 : (x.op == 13) = false := by assumption
    have h8 : (x.op == 8) = false := by assumption
    have h9 : (x.op == 9) = false := by assumption
    have h10 : (x.op == 10) = false := by assumption
    rw [folS_n h13 h8 h9 h10]
    go_ret
    exact IntsNew.lit (by simp) (HB.out.alloc HB.out.size _) (by simp)

end Go.Proofs.YtbifbmpflhdijaaDoor
