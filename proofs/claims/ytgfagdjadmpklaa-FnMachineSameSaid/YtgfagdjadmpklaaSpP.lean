/- The model's judgement of a statement's fields: l2None and l2Parts answer what the plain functions say; nothing that was there has changed. -/
import Derived.Test.YtgfagdjadmpklaaEq
import Derived.Test.YtgfagdjadmpklaaTreeP
namespace Go.Proofs.Ytgfagdjadmpklaa
open Go.RowKit
set_option linter.unusedVariables false

set_option maxHeartbeats 1000000 in
theorem sNone_any (e : E) (a : Option Addr) (c : Nat) (w : World) (hm : e.kids.length ≤ maxLen) : Calls Try.prog 126 #[.agg #[.int .i64 e.kind, .int .i64 e.value, .slice a e.kids.length c]] w (AnsB (noneB e) w) := by
  unfold maxLen at hm
  have HB := Lib.hid ((Below.refl w.heap.size w).alloc (Nat.le_refl _) (.cells #[.int .i64 e.kind, .int .i64 e.value, .slice a e.kids.length c] 45))
  by_cases h1 : e.kind = 0
  case neg =>
    have d1 : (e.kind == 0) = false := by simpa using h1
    have HN : Hid (false = noneB e) := by show false = _; simp [noneB, h1]
    clear h1
    go_enter Try.func126, Try.ntmps126
    go_wp2_with fail
    go_ret
    exact AnsB.of HN.out HB.out
  case pos =>
  have d1 : (e.kind == 0) = true := by simpa using h1
  by_cases h2 : e.value = 0
  case neg =>
    have d2 : (e.value == 0) = false := by simpa using h2
    have HN : Hid (false = noneB e) := by show false = _; simp [noneB, h2]
    clear h1 h2
    go_enter Try.func126, Try.ntmps126
    go_wp2_with fail
    go_ret
    exact AnsB.of HN.out HB.out
  case pos =>
  have d2 : (e.value == 0) = true := by simpa using h2
  by_cases h3 : e.kids.length = 0
  case neg =>
    have d3 : ((e.kids.length : Int) == 0) = false := by simp; intro h; exact h3 (by rw [h]; rfl)
    have HN : Hid (false = noneB e) := by show false = _; simp [noneB]; intro _ _ h; exact h3 (by rw [h]; rfl)
    clear h1 h2 h3
    go_enter Try.func126, Try.ntmps126
    go_wp2_with fail
    go_ret
    exact AnsB.of HN.out HB.out
  case pos =>
    have d3 : ((e.kids.length : Int) == 0) = true := by rw [h3]; rfl
    have HN : Hid (true = noneB e) := by show true = _; unfold noneB; rw [h1, h2, h3]; rfl
    clear h1 h2 h3
    go_enter Try.func126, Try.ntmps126
    go_wp2_with fail
    go_ret
    exact AnsB.of HN.out HB.out

set_option maxRecDepth 100000 in
set_option maxHeartbeats 2000000 in
theorem sParts_3t (s : S) (k : SC) (w : World) (hi : s.index.kids.length ≤ maxLen) (hv : s.value.kids.length ≤ maxLen) (hb : s.body.length ≤ maxLen) (he : s.els.length ≤ maxLen) (hk : s.kind = 3) (ht : s.target ≠ 0) (HN : Hid (false = partsB s)) :
    Calls Try.prog 121 #[aggS s k] w (AnsB (partsB s) w) := by
  unfold maxLen at hb he
  have HB := Lib.hid ((Below.refl w.heap.size w).alloc (Nat.le_refl _) (.cells (arrS s k) 107))
  have HX := Lib.hid (BoxS.new w s k 107)
  have k2 : (s.kind == 2) = false := by rw [hk]; rfl
  have k3 : (s.kind == 3) = true := by rw [hk]; rfl
  have k4 : (s.kind == 4) = false := by rw [hk]; rfl
  have dt : (s.target != 0) = true := by simpa using ht
  clear hk ht
  go_enter Try.func121, Try.ntmps121
  go_wp2_with fail
  go_ret
  exact AnsB.of HN.out ((Below.refl _ _).alloc (Nat.le_refl _) _)

set_option maxRecDepth 100000 in
set_option maxHeartbeats 2000000 in
theorem sParts_4t (s : S) (k : SC) (w : World) (hi : s.index.kids.length ≤ maxLen) (hv : s.value.kids.length ≤ maxLen) (hb : s.body.length ≤ maxLen) (he : s.els.length ≤ maxLen) (hk : s.kind = 4) (ht : s.target ≠ 0) (HN : Hid (false = partsB s)) :
    Calls Try.prog 121 #[aggS s k] w (AnsB (partsB s) w) := by
  unfold maxLen at hb he
  have HB := Lib.hid ((Below.refl w.heap.size w).alloc (Nat.le_refl _) (.cells (arrS s k) 107))
  have HX := Lib.hid (BoxS.new w s k 107)
  have k2 : (s.kind == 2) = false := by rw [hk]; rfl
  have k3 : (s.kind == 3) = false := by rw [hk]; rfl
  have k4 : (s.kind == 4) = true := by rw [hk]; rfl
  have dt : (s.target != 0) = true := by simpa using ht
  clear hk ht
  go_enter Try.func121, Try.ntmps121
  go_wp2_with fail
  go_ret
  exact AnsB.of HN.out ((Below.refl _ _).alloc (Nat.le_refl _) _)

set_option maxRecDepth 100000 in
set_option maxHeartbeats 2000000 in
theorem sParts_3c (s : S) (k : SC) (w : World) (hi : s.index.kids.length ≤ maxLen) (hv : s.value.kids.length ≤ maxLen) (hb : s.body.length ≤ maxLen) (he : s.els.length ≤ maxLen) (hk : s.kind = 3) (ht : s.target = 0) (hc : s.count ≠ 0) (HN : Hid (false = partsB s)) :
    Calls Try.prog 121 #[aggS s k] w (AnsB (partsB s) w) := by
  unfold maxLen at hb he
  have HB := Lib.hid ((Below.refl w.heap.size w).alloc (Nat.le_refl _) (.cells (arrS s k) 107))
  have HX := Lib.hid (BoxS.new w s k 107)
  have k2 : (s.kind == 2) = false := by rw [hk]; rfl
  have k3 : (s.kind == 3) = true := by rw [hk]; rfl
  have k4 : (s.kind == 4) = false := by rw [hk]; rfl
  have dt : (s.target != 0) = false := by simpa using ht
  have dc : (s.count == 0) = false := by simpa using hc
  clear hk ht hc
  go_enter Try.func121, Try.ntmps121
  go_wp2_with fail
  go_ret
  exact AnsB.of HN.out ((Below.refl _ _).alloc (Nat.le_refl _) _)

set_option maxRecDepth 100000 in
set_option maxHeartbeats 2000000 in
theorem sParts_3 (s : S) (k : SC) (w : World) (hi : s.index.kids.length ≤ maxLen) (hv : s.value.kids.length ≤ maxLen) (hb : s.body.length ≤ maxLen) (he : s.els.length ≤ maxLen) (hk : s.kind = 3) (ht : s.target = 0) (hc : s.count = 0) (HN : Hid (noneB s.index = partsB s)) :
    Calls Try.prog 121 #[aggS s k] w (AnsB (partsB s) w) := by
  unfold maxLen at hb he
  have HB := Lib.hid ((Below.refl w.heap.size w).alloc (Nat.le_refl _) (.cells (arrS s k) 107))
  have HX := Lib.hid (BoxS.new w s k 107)
  have k2 : (s.kind == 2) = false := by rw [hk]; rfl
  have k3 : (s.kind == 3) = true := by rw [hk]; rfl
  have k4 : (s.kind == 4) = false := by rw [hk]; rfl
  have dt : (s.target != 0) = false := by simpa using ht
  have dc : (s.count == 0) = true := by simpa using hc
  clear hk ht hc
  go_enter Try.func121, Try.ntmps121
  go_wp2_with fail
  obtain ⟨W, hW⟩ : ∃ W, (w.alloc (.cells (arrS s k) 107)) = W := ⟨_, rfl⟩
  have hz : W.heap.size = w.heap.size + 1 := by rw [← hW]; simp
  rw [hW] at HB HX
  unfold arrS at hW
  rw [hW]
  clear hW
  refine (sNone_any s.index k.ia k.ic W hi).mono ?_
  rintro g w0 ⟨rfl, hb0⟩
  have HB0 := Lib.hid (HB.out.trans (hb0.mono HB.out.size))
  have HX0 := Lib.hid (HX.out.below hb0 HX.out.lt)
  clear hb0
  go_wp2_with fail
  go_ret
  exact AnsB.of HN.out HB0.out

set_option maxRecDepth 100000 in
set_option maxHeartbeats 2000000 in
theorem sParts_4e (s : S) (k : SC) (w : World) (hi : s.index.kids.length ≤ maxLen) (hv : s.value.kids.length ≤ maxLen) (hb : s.body.length ≤ maxLen) (he : s.els.length ≤ maxLen) (hk : s.kind = 4) (ht : s.target = 0) (he1 : 0 < s.els.length) (HN : Hid (false = partsB s)) :
    Calls Try.prog 121 #[aggS s k] w (AnsB (partsB s) w) := by
  unfold maxLen at hb he
  have HB := Lib.hid ((Below.refl w.heap.size w).alloc (Nat.le_refl _) (.cells (arrS s k) 107))
  have HX := Lib.hid (BoxS.new w s k 107)
  have k2 : (s.kind == 2) = false := by rw [hk]; rfl
  have k3 : (s.kind == 3) = false := by rw [hk]; rfl
  have k4 : (s.kind == 4) = true := by rw [hk]; rfl
  have dt : (s.target != 0) = false := by simpa using ht
  have dq : ((s.els.length : Int) == 0) = false := by simp; intro h; rw [h] at he1; simp at he1
  clear hk ht he1
  go_enter Try.func121, Try.ntmps121
  go_wp2_with fail
  go_ret
  exact AnsB.of HN.out ((Below.refl _ _).alloc (Nat.le_refl _) _)

set_option maxRecDepth 100000 in
set_option maxHeartbeats 2000000 in
theorem sParts_4g (s : S) (k : SC) (w : World) (hi : s.index.kids.length ≤ maxLen) (hv : s.value.kids.length ≤ maxLen) (hb : s.body.length ≤ maxLen) (he : s.els.length ≤ maxLen) (hk : s.kind = 4) (ht : s.target = 0) (he0 : s.els.length = 0) (hc1 : ¬ 1 ≤ s.count) (HN : Hid (false = partsB s)) :
    Calls Try.prog 121 #[aggS s k] w (AnsB (partsB s) w) := by
  unfold maxLen at hb he
  have HB := Lib.hid ((Below.refl w.heap.size w).alloc (Nat.le_refl _) (.cells (arrS s k) 107))
  have HX := Lib.hid (BoxS.new w s k 107)
  have k2 : (s.kind == 2) = false := by rw [hk]; rfl
  have k3 : (s.kind == 3) = false := by rw [hk]; rfl
  have k4 : (s.kind == 4) = true := by rw [hk]; rfl
  have dt : (s.target != 0) = false := by simpa using ht
  have dq : ((s.els.length : Int) == 0) = true := by rw [he0]; rfl
  have dg : decide (1 ≤ s.count) = false := decide_eq_false hc1
  clear hk ht he0 hc1
  go_enter Try.func121, Try.ntmps121
  go_wp2_with fail
  go_ret
  exact AnsB.of HN.out ((Below.refl _ _).alloc (Nat.le_refl _) _)

set_option maxRecDepth 100000 in
set_option maxHeartbeats 2000000 in
theorem sParts_4l (s : S) (k : SC) (w : World) (hi : s.index.kids.length ≤ maxLen) (hv : s.value.kids.length ≤ maxLen) (hb : s.body.length ≤ maxLen) (he : s.els.length ≤ maxLen) (hk : s.kind = 4) (ht : s.target = 0) (he0 : s.els.length = 0) (hc1 : 1 ≤ s.count) (hc3 : ¬ s.count ≤ 3) (HN : Hid (false = partsB s)) :
    Calls Try.prog 121 #[aggS s k] w (AnsB (partsB s) w) := by
  unfold maxLen at hb he
  have HB := Lib.hid ((Below.refl w.heap.size w).alloc (Nat.le_refl _) (.cells (arrS s k) 107))
  have HX := Lib.hid (BoxS.new w s k 107)
  have k2 : (s.kind == 2) = false := by rw [hk]; rfl
  have k3 : (s.kind == 3) = false := by rw [hk]; rfl
  have k4 : (s.kind == 4) = true := by rw [hk]; rfl
  have dt : (s.target != 0) = false := by simpa using ht
  have dq : ((s.els.length : Int) == 0) = true := by rw [he0]; rfl
  have dg : decide (1 ≤ s.count) = true := decide_eq_true hc1
  have dl : decide (s.count ≤ 3) = false := decide_eq_false hc3
  clear hk ht he0 hc1 hc3
  go_enter Try.func121, Try.ntmps121
  go_wp2_with fail
  go_ret
  exact AnsB.of HN.out ((Below.refl _ _).alloc (Nat.le_refl _) _)

set_option maxRecDepth 100000 in
set_option maxHeartbeats 2000000 in
theorem sParts_4i (s : S) (k : SC) (w : World) (hi : s.index.kids.length ≤ maxLen) (hv : s.value.kids.length ≤ maxLen) (hb : s.body.length ≤ maxLen) (he : s.els.length ≤ maxLen) (hk : s.kind = 4) (ht : s.target = 0) (he0 : s.els.length = 0) (hc1 : 1 ≤ s.count) (hc3 : s.count ≤ 3) (HI : Hid (noneB s.index = false)) (HN : Hid (false = partsB s)) :
    Calls Try.prog 121 #[aggS s k] w (AnsB (partsB s) w) := by
  unfold maxLen at hb he
  have HB := Lib.hid ((Below.refl w.heap.size w).alloc (Nat.le_refl _) (.cells (arrS s k) 107))
  have HX := Lib.hid (BoxS.new w s k 107)
  have k2 : (s.kind == 2) = false := by rw [hk]; rfl
  have k3 : (s.kind == 3) = false := by rw [hk]; rfl
  have k4 : (s.kind == 4) = true := by rw [hk]; rfl
  have dt : (s.target != 0) = false := by simpa using ht
  have dq : ((s.els.length : Int) == 0) = true := by rw [he0]; rfl
  have dg : decide (1 ≤ s.count) = true := decide_eq_true hc1
  have dl : decide (s.count ≤ 3) = true := decide_eq_true hc3
  clear hk ht he0 hc1 hc3
  go_enter Try.func121, Try.ntmps121
  go_wp2_with fail
  obtain ⟨W, hW⟩ : ∃ W, (w.alloc (.cells (arrS s k) 107)) = W := ⟨_, rfl⟩
  have hz : W.heap.size = w.heap.size + 1 := by rw [← hW]; simp
  rw [hW] at HB HX
  unfold arrS at hW
  rw [hW]
  clear hW
  refine (sNone_any s.index k.ia k.ic W hi).mono ?_
  rintro g w0 ⟨rfl, hb0⟩
  have HB0 := Lib.hid (HB.out.trans (hb0.mono HB.out.size))
  have HX0 := Lib.hid (HX.out.below hb0 HX.out.lt)
  clear hb0
  rw [HI.out]
  have c5 := HX0.out.c5
  have c6 := HX0.out.c6
  have c7 := HX0.out.c7
  go_wp2_with fail
  go_ret
  exact AnsB.of HN.out HB0.out

set_option maxRecDepth 100000 in
set_option maxHeartbeats 2000000 in
theorem sParts_4 (s : S) (k : SC) (w : World) (hi : s.index.kids.length ≤ maxLen) (hv : s.value.kids.length ≤ maxLen) (hb : s.body.length ≤ maxLen) (he : s.els.length ≤ maxLen) (hk : s.kind = 4) (ht : s.target = 0) (he0 : s.els.length = 0) (hc1 : 1 ≤ s.count) (hc3 : s.count ≤ 3) (HI : Hid (noneB s.index = true)) (HN : Hid (noneB s.value = partsB s)) :
    Calls Try.prog 121 #[aggS s k] w (AnsB (partsB s) w) := by
  unfold maxLen at hb he
  have HB := Lib.hid ((Below.refl w.heap.size w).alloc (Nat.le_refl _) (.cells (arrS s k) 107))
  have HX := Lib.hid (BoxS.new w s k 107)
  have k2 : (s.kind == 2) = false := by rw [hk]; rfl
  have k3 : (s.kind == 3) = false := by rw [hk]; rfl
  have k4 : (s.kind == 4) = true := by rw [hk]; rfl
  have dt : (s.target != 0) = false := by simpa using ht
  have dq : ((s.els.length : Int) == 0) = true := by rw [he0]; rfl
  have dg : decide (1 ≤ s.count) = true := decide_eq_true hc1
  have dl : decide (s.count ≤ 3) = true := decide_eq_true hc3
  clear hk ht he0 hc1 hc3
  go_enter Try.func121, Try.ntmps121
  go_wp2_with fail
  obtain ⟨W, hW⟩ : ∃ W, (w.alloc (.cells (arrS s k) 107)) = W := ⟨_, rfl⟩
  have hz : W.heap.size = w.heap.size + 1 := by rw [← hW]; simp
  rw [hW] at HB HX
  unfold arrS at hW
  rw [hW]
  clear hW
  refine (sNone_any s.index k.ia k.ic W hi).mono ?_
  rintro g w0 ⟨rfl, hb0⟩
  have HB0 := Lib.hid (HB.out.trans (hb0.mono HB.out.size))
  have HX0 := Lib.hid (HX.out.below hb0 HX.out.lt)
  clear hb0
  rw [HI.out]
  have c5 := HX0.out.c5
  have c6 := HX0.out.c6
  have c7 := HX0.out.c7
  go_wp2_with fail
  refine (sNone_any s.value k.va k.vc w0 hv).mono ?_
  rintro g w1 ⟨rfl, hb1⟩
  have HB1 := Lib.hid (HB0.out.trans (hb1.mono HB0.out.size))
  have HX1 := Lib.hid (HX0.out.below hb1 HX0.out.lt)
  clear hb1
  go_wp2_with fail
  go_ret
  exact AnsB.of HN.out HB1.out

set_option maxRecDepth 100000 in
set_option maxHeartbeats 2000000 in
theorem sParts_2b (s : S) (k : SC) (w : World) (hi : s.index.kids.length ≤ maxLen) (hv : s.value.kids.length ≤ maxLen) (hb : s.body.length ≤ maxLen) (he : s.els.length ≤ maxLen) (hk : s.kind = 2) (hb1 : 0 < s.body.length) (HN : Hid (false = partsB s)) :
    Calls Try.prog 121 #[aggS s k] w (AnsB (partsB s) w) := by
  unfold maxLen at hb he
  have HB := Lib.hid ((Below.refl w.heap.size w).alloc (Nat.le_refl _) (.cells (arrS s k) 107))
  have HX := Lib.hid (BoxS.new w s k 107)
  have k2 : (s.kind == 2) = true := by rw [hk]; rfl
  have k3 : (s.kind == 3) = false := by rw [hk]; rfl
  have k4 : (s.kind == 4) = false := by rw [hk]; rfl
  have db : decide (0 < s.body.length) = true := decide_eq_true (by omega)
  clear hk hb1
  go_enter Try.func121, Try.ntmps121
  go_wp2_with fail
  go_ret
  exact AnsB.of HN.out ((Below.refl _ _).alloc (Nat.le_refl _) _)

set_option maxRecDepth 100000 in
set_option maxHeartbeats 2000000 in
theorem sParts_2e (s : S) (k : SC) (w : World) (hi : s.index.kids.length ≤ maxLen) (hv : s.value.kids.length ≤ maxLen) (hb : s.body.length ≤ maxLen) (he : s.els.length ≤ maxLen) (hk : s.kind = 2) (hb0 : s.body.length = 0) (he1 : 0 < s.els.length) (HN : Hid (false = partsB s)) :
    Calls Try.prog 121 #[aggS s k] w (AnsB (partsB s) w) := by
  unfold maxLen at hb he
  have HB := Lib.hid ((Below.refl w.heap.size w).alloc (Nat.le_refl _) (.cells (arrS s k) 107))
  have HX := Lib.hid (BoxS.new w s k 107)
  have k2 : (s.kind == 2) = true := by rw [hk]; rfl
  have k3 : (s.kind == 3) = false := by rw [hk]; rfl
  have k4 : (s.kind == 4) = false := by rw [hk]; rfl
  have db : decide (0 < s.body.length) = false := decide_eq_false (by omega)
  have de : decide (0 < s.els.length) = true := decide_eq_true (by omega)
  clear hk hb0 he1
  go_enter Try.func121, Try.ntmps121
  go_wp2_with fail
  go_ret
  exact AnsB.of HN.out ((Below.refl _ _).alloc (Nat.le_refl _) _)

set_option maxRecDepth 100000 in
set_option maxHeartbeats 2000000 in
theorem sParts_2c (s : S) (k : SC) (w : World) (hi : s.index.kids.length ≤ maxLen) (hv : s.value.kids.length ≤ maxLen) (hb : s.body.length ≤ maxLen) (he : s.els.length ≤ maxLen) (hk : s.kind = 2) (hb0 : s.body.length = 0) (he0 : s.els.length = 0) (hc : s.count ≠ 0) (HN : Hid (false = partsB s)) :
    Calls Try.prog 121 #[aggS s k] w (AnsB (partsB s) w) := by
  unfold maxLen at hb he
  have HB := Lib.hid ((Below.refl w.heap.size w).alloc (Nat.le_refl _) (.cells (arrS s k) 107))
  have HX := Lib.hid (BoxS.new w s k 107)
  have k2 : (s.kind == 2) = true := by rw [hk]; rfl
  have k3 : (s.kind == 3) = false := by rw [hk]; rfl
  have k4 : (s.kind == 4) = false := by rw [hk]; rfl
  have db : decide (0 < s.body.length) = false := decide_eq_false (by omega)
  have de : decide (0 < s.els.length) = false := decide_eq_false (by omega)
  have dc : (s.count == 0) = false := by simpa using hc
  clear hk hb0 he0 hc
  go_enter Try.func121, Try.ntmps121
  go_wp2_with fail
  go_ret
  exact AnsB.of HN.out ((Below.refl _ _).alloc (Nat.le_refl _) _)

set_option maxRecDepth 100000 in
set_option maxHeartbeats 2000000 in
theorem sParts_ob (s : S) (k : SC) (w : World) (hi : s.index.kids.length ≤ maxLen) (hv : s.value.kids.length ≤ maxLen) (hb : s.body.length ≤ maxLen) (he : s.els.length ≤ maxLen) (hk2 : s.kind ≠ 2) (hk3 : s.kind ≠ 3) (hk4 : s.kind ≠ 4) (hb1 : 0 < s.body.length) (HN : Hid (false = partsB s)) :
    Calls Try.prog 121 #[aggS s k] w (AnsB (partsB s) w) := by
  unfold maxLen at hb he
  have HB := Lib.hid ((Below.refl w.heap.size w).alloc (Nat.le_refl _) (.cells (arrS s k) 107))
  have HX := Lib.hid (BoxS.new w s k 107)
  have k2 : (s.kind == 2) = false := by simpa using hk2
  have k3 : (s.kind == 3) = false := by simpa using hk3
  have k4 : (s.kind == 4) = false := by simpa using hk4
  have db : decide (0 < s.body.length) = true := decide_eq_true (by omega)
  clear hk2 hk3 hk4 hb1
  go_enter Try.func121, Try.ntmps121
  go_wp2_with fail
  go_ret
  exact AnsB.of HN.out ((Below.refl _ _).alloc (Nat.le_refl _) _)

set_option maxRecDepth 100000 in
set_option maxHeartbeats 2000000 in
theorem sParts_oe (s : S) (k : SC) (w : World) (hi : s.index.kids.length ≤ maxLen) (hv : s.value.kids.length ≤ maxLen) (hb : s.body.length ≤ maxLen) (he : s.els.length ≤ maxLen) (hk2 : s.kind ≠ 2) (hk3 : s.kind ≠ 3) (hk4 : s.kind ≠ 4) (hb0 : s.body.length = 0) (he1 : 0 < s.els.length) (HN : Hid (false = partsB s)) :
    Calls Try.prog 121 #[aggS s k] w (AnsB (partsB s) w) := by
  unfold maxLen at hb he
  have HB := Lib.hid ((Below.refl w.heap.size w).alloc (Nat.le_refl _) (.cells (arrS s k) 107))
  have HX := Lib.hid (BoxS.new w s k 107)
  have k2 : (s.kind == 2) = false := by simpa using hk2
  have k3 : (s.kind == 3) = false := by simpa using hk3
  have k4 : (s.kind == 4) = false := by simpa using hk4
  have db : decide (0 < s.body.length) = false := decide_eq_false (by omega)
  have de : decide (0 < s.els.length) = true := decide_eq_true (by omega)
  clear hk2 hk3 hk4 hb0 he1
  go_enter Try.func121, Try.ntmps121
  go_wp2_with fail
  go_ret
  exact AnsB.of HN.out ((Below.refl _ _).alloc (Nat.le_refl _) _)

set_option maxRecDepth 100000 in
set_option maxHeartbeats 2000000 in
theorem sParts_oc (s : S) (k : SC) (w : World) (hi : s.index.kids.length ≤ maxLen) (hv : s.value.kids.length ≤ maxLen) (hb : s.body.length ≤ maxLen) (he : s.els.length ≤ maxLen) (hk2 : s.kind ≠ 2) (hk3 : s.kind ≠ 3) (hk4 : s.kind ≠ 4) (hb0 : s.body.length = 0) (he0 : s.els.length = 0) (hc : s.count ≠ 0) (HN : Hid (false = partsB s)) :
    Calls Try.prog 121 #[aggS s k] w (AnsB (partsB s) w) := by
  unfold maxLen at hb he
  have HB := Lib.hid ((Below.refl w.heap.size w).alloc (Nat.le_refl _) (.cells (arrS s k) 107))
  have HX := Lib.hid (BoxS.new w s k 107)
  have k2 : (s.kind == 2) = false := by simpa using hk2
  have k3 : (s.kind == 3) = false := by simpa using hk3
  have k4 : (s.kind == 4) = false := by simpa using hk4
  have db : decide (0 < s.body.length) = false := decide_eq_false (by omega)
  have de : decide (0 < s.els.length) = false := decide_eq_false (by omega)
  have dc : (s.count == 0) = false := by simpa using hc
  clear hk2 hk3 hk4 hb0 he0 hc
  go_enter Try.func121, Try.ntmps121
  go_wp2_with fail
  go_ret
  exact AnsB.of HN.out ((Below.refl _ _).alloc (Nat.le_refl _) _)

set_option maxRecDepth 100000 in
set_option maxHeartbeats 2000000 in
theorem sParts_2 (s : S) (k : SC) (w : World) (hi : s.index.kids.length ≤ maxLen) (hv : s.value.kids.length ≤ maxLen) (hb : s.body.length ≤ maxLen) (he : s.els.length ≤ maxLen) (hk : s.kind = 2) (hb0 : s.body.length = 0) (he0 : s.els.length = 0) (hc : s.count = 0) (HN : Hid (true = partsB s)) :
    Calls Try.prog 121 #[aggS s k] w (AnsB (partsB s) w) := by
  unfold maxLen at hb he
  have HB := Lib.hid ((Below.refl w.heap.size w).alloc (Nat.le_refl _) (.cells (arrS s k) 107))
  have HX := Lib.hid (BoxS.new w s k 107)
  have k2 : (s.kind == 2) = true := by rw [hk]; rfl
  have k3 : (s.kind == 3) = false := by rw [hk]; rfl
  have k4 : (s.kind == 4) = false := by rw [hk]; rfl
  have db : decide (0 < s.body.length) = false := decide_eq_false (by omega)
  have de : decide (0 < s.els.length) = false := decide_eq_false (by omega)
  have dc : (s.count == 0) = true := by simpa using hc
  clear hk hb0 he0 hc
  go_enter Try.func121, Try.ntmps121
  go_wp2_with fail
  go_ret
  exact AnsB.of HN.out ((Below.refl _ _).alloc (Nat.le_refl _) _)

set_option maxRecDepth 100000 in
set_option maxHeartbeats 2000000 in
theorem sParts_o (s : S) (k : SC) (w : World) (hi : s.index.kids.length ≤ maxLen) (hv : s.value.kids.length ≤ maxLen) (hb : s.body.length ≤ maxLen) (he : s.els.length ≤ maxLen) (hk2 : s.kind ≠ 2) (hk3 : s.kind ≠ 3) (hk4 : s.kind ≠ 4) (hb0 : s.body.length = 0) (he0 : s.els.length = 0) (hc : s.count = 0) (HN : Hid (noneB s.index = partsB s)) :
    Calls Try.prog 121 #[aggS s k] w (AnsB (partsB s) w) := by
  unfold maxLen at hb he
  have HB := Lib.hid ((Below.refl w.heap.size w).alloc (Nat.le_refl _) (.cells (arrS s k) 107))
  have HX := Lib.hid (BoxS.new w s k 107)
  have k2 : (s.kind == 2) = false := by simpa using hk2
  have k3 : (s.kind == 3) = false := by simpa using hk3
  have k4 : (s.kind == 4) = false := by simpa using hk4
  have db : decide (0 < s.body.length) = false := decide_eq_false (by omega)
  have de : decide (0 < s.els.length) = false := decide_eq_false (by omega)
  have dc : (s.count == 0) = true := by simpa using hc
  clear hk2 hk3 hk4 hb0 he0 hc
  go_enter Try.func121, Try.ntmps121
  go_wp2_with fail
  refine (sNone_any s.index k.ia k.ic _ hi).mono ?_
  rintro g w0 ⟨rfl, hb0⟩
  have HB0 : Hid (Below w.heap.size w w0) := ((Below.refl _ w).alloc (Nat.le_refl _) _).trans (hb0.mono (by simp))
  clear hb0
  go_wp2_with fail
  go_ret
  exact AnsB.of HN.out HB0.out

/-- **l2Parts, AT EVERY STATEMENT.** -/
theorem sParts_any (s : S) (k : SC) (w : World) (hi : s.index.kids.length ≤ maxLen) (hv : s.value.kids.length ≤ maxLen) (hb : s.body.length ≤ maxLen) (he : s.els.length ≤ maxLen) :
    Calls Try.prog 121 #[aggS s k] w (AnsB (partsB s) w) := by
  by_cases k3 : s.kind = 3
  · by_cases ht : s.target = 0
    · by_cases hc : s.count = 0
      · exact sParts_3 s k w hi hv hb he k3 ht hc (show _ = _ by simp [partsB, blockK, k3, ht, hc])
      · exact sParts_3c s k w hi hv hb he k3 ht hc (show _ = _ by simp [partsB, blockK, k3, ht, hc])
    · exact sParts_3t s k w hi hv hb he k3 ht (show _ = _ by simp [partsB, blockK, k3, ht])
  by_cases k4 : s.kind = 4
  · by_cases ht : s.target = 0
    · by_cases he0 : s.els.length = 0
      · by_cases c1 : 1 ≤ s.count
        · by_cases c3 : s.count ≤ 3
          · cases hq : noneB s.index
            · exact sParts_4i s k w hi hv hb he k4 ht he0 c1 c3 hq (show _ = _ by simp [partsB, blockK, k4, ht, hq])
            · exact sParts_4 s k w hi hv hb he k4 ht he0 c1 c3 hq (show _ = _ by unfold partsB; rw [decide_eq_true he0, decide_eq_true c1, decide_eq_true c3, hq]; simp [blockK, k4, ht])
          · exact sParts_4l s k w hi hv hb he k4 ht he0 c1 c3 (show _ = _ by unfold partsB; rw [decide_eq_false c3]; simp [blockK, k4, ht])
        · exact sParts_4g s k w hi hv hb he k4 ht he0 c1 (show _ = _ by unfold partsB; rw [decide_eq_false c1]; simp [blockK, k4, ht])
      · exact sParts_4e s k w hi hv hb he k4 ht (by omega) (show _ = _ by unfold partsB; rw [decide_eq_false he0]; simp [blockK, k4, ht])
    · exact sParts_4t s k w hi hv hb he k4 ht (show _ = _ by simp [partsB, blockK, k4, ht])
  by_cases hb0 : s.body.length = 0
  · by_cases he0 : s.els.length = 0
    · have f1 : decide (0 < s.body.length) = false := by simp [hb0]
      have f2 : decide (0 < s.els.length) = false := by simp [he0]
      by_cases hc : s.count = 0
      · by_cases k2 : s.kind = 2
        · exact sParts_2 s k w hi hv hb he k2 hb0 he0 hc (show _ = _ by unfold partsB; rw [f1, f2]; simp [blockK, k2, hc])
        · exact sParts_o s k w hi hv hb he k2 k3 k4 hb0 he0 hc (show _ = _ by unfold partsB; rw [f1, f2]; simp [blockK, k2, k3, k4, hc])
      · by_cases k2 : s.kind = 2
        · exact sParts_2c s k w hi hv hb he k2 hb0 he0 hc (show _ = _ by unfold partsB; rw [f1, f2]; simp [blockK, k2, hc])
        · exact sParts_oc s k w hi hv hb he k2 k3 k4 hb0 he0 hc (show _ = _ by unfold partsB; rw [f1, f2]; simp [blockK, k2, k3, k4, hc])
    · have f2 : decide (0 < s.els.length) = true := by simp; omega
      by_cases k2 : s.kind = 2
      · exact sParts_2e s k w hi hv hb he k2 hb0 (by omega) (show _ = _ by unfold partsB; rw [f2]; simp [blockK, k2])
      · exact sParts_oe s k w hi hv hb he k2 k3 k4 hb0 (by omega) (show _ = _ by unfold partsB; rw [f2]; simp [blockK, k3, k4])
  · have f1 : decide (0 < s.body.length) = true := by simp; omega
    by_cases k2 : s.kind = 2
    · exact sParts_2b s k w hi hv hb he k2 (by omega) (show _ = _ by unfold partsB; rw [f1]; simp [blockK, k2])
    · exact sParts_ob s k w hi hv hb he k2 k3 k4 (by omega) (show _ = _ by unfold partsB; rw [f1]; simp [blockK, k3, k4])

end Go.Proofs.Ytgfagdjadmpklaa
