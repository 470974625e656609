/- Caches, pure: what an access leaves, runs of traces, times. -/
import Derived.Test.YteoaecfjgbkefaaTrE
namespace Go.Proofs.Yteoaecfjgbkefaa
open Go.RowKit
set_option linter.unusedVariables false

/-- Two lines. -/
structure Ca where
  c0 : Int
  c1 : Int
deriving DecidableEq

/-- The list of the lines. -/
def Ca.l (c : Ca) : List Int := [c.c0, c.c1]
def okLn (i : Int) (b : Int) : Bool := decide (-2 ≤ b ∧ b ≤ 3 ∧ (0 ≤ b → b % 2 = i))
def okCa (c : Ca) : Bool := okLn 0 c.c0 && okLn 1 c.c1
/-- A list of numbers is the lines of a valid cache. -/
def okL (xs : List Int) : Bool := match xs with
  | [a, b] => okCa ⟨a, b⟩
  | _ => false
theorem okL_l (c : Ca) : okL c.l = okCa c := rfl
theorem okL_two {xs : List Int} (h : okL xs = true) : ∃ c : Ca, xs = c.l ∧ okCa c = true := by
  match xs, h with
  | [a, b], h => exact ⟨⟨a, b⟩, rfl, h⟩
theorem okL_len {xs : List Int} (h : xs.length ≠ 2) : okL xs = false := by
  match xs, h with
  | [], _ => rfl
  | [_], _ => rfl
  | [a, b], h => exact absurd rfl h
  | _ :: _ :: _ :: _, _ => rfl
theorem len_two {xs : List Int} (h : xs.length = 2) : ∃ c : Ca, xs = c.l := by
  match xs, h with
  | [a, b], _ => exact ⟨⟨a, b⟩, rfl⟩

/-- The line of an address. -/
def lnA (a : Nat) : Nat := a / 2 % 2
def Ca.get (c : Ca) (i : Nat) : Int := if i = 0 then c.c0 else c.c1
def Ca.set (c : Ca) (i : Nat) (b : Int) : Ca := if i = 0 then ⟨b, c.c1⟩ else ⟨c.c0, b⟩
def Ca.hit (c : Ca) (a : Nat) : Bool := c.get (lnA a) == ((a / 2 : Nat) : Int)
def Ca.acc (c : Ca) (a : Nat) : Ca := c.set (lnA a) ((a / 2 : Nat) : Int)
theorem Ca.acc_ok {c : Ca} (h : okCa c = true) {a : Nat} (ha : a < 8) : okCa (c.acc a) = true := by
  unfold okCa at h ⊢
  rw [Bool.and_eq_true] at h ⊢
  obtain ⟨h0, h1⟩ := h
  obtain rfl | rfl | rfl | rfl | rfl | rfl | rfl | rfl : a = 0 ∨ a = 1 ∨ a = 2 ∨ a = 3 ∨ a = 4 ∨ a = 5 ∨ a = 6 ∨ a = 7 := by omega
  all_goals first | exact ⟨h0, rfl⟩ | exact ⟨rfl, h1⟩

def adr (v : Int) : Bool := decide (0 ≤ v ∧ v < 8)
theorem adr_nat {v : Int} (h : adr v = true) : ∃ a : Nat, v = (a : Int) ∧ a < 8 := by
  have h' := of_decide_eq_true h
  exact ⟨v.toNat, by omega, by omega⟩
theorem adr_no {v : Int} (h : adr v = false) : v < 0 ∨ 8 ≤ v := by
  have h' := of_decide_eq_false h
  omega

/-- A run's state: the lines and the hits; none behind an access to no address. -/
abbrev CaS := Option (Ca × List Bool)
def stV : CaS → Int → CaS
  | none, _ => none
  | some (c, hs), v => if adr v = true then some (c.acc v.toNat, hs ++ [c.hit v.toNat]) else none
def runV (s : CaS) (vs : List Int) : CaS := vs.foldl stV s
theorem runV_none : ∀ vs, runV none vs = none
  | [] => rfl
  | _ :: vs => runV_none vs
theorem runV_app (s : CaS) (vs us : List Int) : runV s (vs ++ us) = runV (runV s vs) us := List.foldl_append ..
theorem runV_snoc (s : CaS) (vs : List Int) (v : Int) : runV s (vs ++ [v]) = stV (runV s vs) v := by rw [runV_app]; rfl
theorem stV_yes {c : Ca} {hs : List Bool} {a : Nat} (ha : a < 8) : stV (some (c, hs)) (a : Int) = some (c.acc a, hs ++ [c.hit a]) := by
  show (if adr (a : Int) = true then _ else _) = _
  rw [if_pos (show adr (a : Int) = true from decide_eq_true ⟨by omega, by omega⟩)]; simp
theorem stV_no {c : Ca} {hs : List Bool} {v : Int} (h : adr v = false) : stV (some (c, hs)) v = none := by
  show (if adr v = true then _ else _) = _
  rw [if_neg (by rw [h]; decide)]
theorem runV_pre {s : CaS} {vs us : List Int} (h : vs <+: us) (hn : runV s vs = none) : runV s us = none := by
  obtain ⟨t, rfl⟩ := h
  rw [runV_app, hn, runV_none]
theorem runV_hits : ∀ (vs : List Int) (c : Ca) (hs : List Bool), runV (some (c, hs)) vs = (runV (some (c, [])) vs).map fun x => (x.1, hs ++ x.2)
  | [], c, hs => by simp [runV]
  | v :: vs, c, hs => by
    show runV (stV _ _) vs = (runV (stV _ _) vs).map _
    by_cases h : adr v = true
    · obtain ⟨a, rfl, ha⟩ := adr_nat h
      rw [stV_yes ha, stV_yes ha]
      show runV (some (c.acc a, hs ++ [c.hit a])) vs = (runV (some (c.acc a, [c.hit a])) vs).map _
      have e1 := runV_hits vs (c.acc a) (hs ++ [c.hit a])
      have e2 := runV_hits vs (c.acc a) [c.hit a]
      rw [e1, e2]
      cases runV (some (c.acc a, [])) vs <;> simp
    · have h' : adr v = false := by simpa using h
      rw [stV_no h', stV_no h', runV_none]; rfl
theorem runV_ok : ∀ (vs : List Int) (c : Ca) (hs : List Bool) (d : Ca) (gs : List Bool), okCa c = true → runV (some (c, hs)) vs = some (d, gs) → okCa d = true
  | [], c, hs, d, gs, h, e => by cases e; exact h
  | v :: vs, c, hs, d, gs, h, e => by
    have e : runV (stV (some (c, hs)) v) vs = _ := e
    by_cases hv : adr v = true
    · obtain ⟨a, rfl, ha⟩ := adr_nat hv
      rw [stV_yes ha] at e
      exact runV_ok vs _ _ d gs (Ca.acc_ok h ha) e
    · have h' : adr v = false := by simpa using hv
      rw [stV_no h', runV_none] at e; cases e
theorem runV_len : ∀ (vs : List Int) (c : Ca) (hs : List Bool) (d : Ca) (gs : List Bool), runV (some (c, hs)) vs = some (d, gs) → gs.length = hs.length + vs.length
  | [], c, hs, d, gs, e => by cases e; simp
  | v :: vs, c, hs, d, gs, e => by
    have e : runV (stV (some (c, hs)) v) vs = _ := e
    by_cases hv : adr v = true
    · obtain ⟨a, rfl, ha⟩ := adr_nat hv
      rw [stV_yes ha] at e
      have := runV_len vs _ _ d gs e
      simp at this ⊢; omega
    · have h' : adr v = false := by simpa using hv
      rw [stV_no h', runV_none] at e; cases e

/-- Does an event access memory? -/
def tch (e : Ev) : Bool := decide (e.kind = 2 ∨ e.kind = 3)
/-- The values of the accesses of a trace. -/
def vls (es : List Ev) : List Int := (es.filter tch).map Ev.value
theorem vls_app (es fs : List Ev) : vls (es ++ fs) = vls es ++ vls fs := by simp [vls]
theorem vls_yes {es : List Ev} {k : Nat} {x : Ev} (h : es[k]? = some x) (ht : tch x = true) : vls (es.take (k + 1)) = vls (es.take k) ++ [x.value] := by
  rw [take_snoc' h, vls_app]; simp [vls, ht]
theorem vls_no {es : List Ev} {k : Nat} {x : Ev} (h : es[k]? = some x) (ht : tch x = false) : vls (es.take (k + 1)) = vls (es.take k) := by
  rw [take_snoc' h, vls_app]; simp [vls, ht]
theorem vls_len (es : List Ev) : (vls es).length ≤ es.length := by unfold vls; rw [List.length_map]; exact List.length_filter_le _ _
theorem vls_take_len (es : List Ev) (k : Nat) : (vls (es.take k)).length ≤ k := Nat.le_trans (vls_len _) (by rw [List.length_take]; exact Nat.min_le_left _ _)
theorem vls_take_pre (es : List Ev) (k : Nat) : vls (es.take k) <+: vls es := ⟨vls (es.drop k), by rw [← vls_app, List.take_append_drop]⟩
theorem vls_all {es : List Ev} {n : Nat} (h : es.length = n) : vls (es.take n) = vls es := by rw [List.take_of_length_le (by omega)]

/-- The run of a trace. -/
def runC (c : Ca) (es : List Ev) : CaS := runV (some (c, [])) (vls es)
theorem runC_app {c : Ca} {es fs : List Ev} {d : Ca} {hs : List Bool} (h : runC c es = some (d, hs)) : runC c (es ++ fs) = (runC d fs).map fun x => (x.1, hs ++ x.2) := by
  unfold runC at h ⊢
  rw [vls_app, runV_app, h, runV_hits]
theorem runC_app_none {c : Ca} {es fs : List Ev} (h : runC c es = none) : runC c (es ++ fs) = none := by
  unfold runC at h ⊢
  rw [vls_app, runV_app, h, runV_none]
theorem runC_ok {c d : Ca} {es : List Ev} {hs : List Bool} (h : okCa c = true) (e : runC c es = some (d, hs)) : okCa d = true := runV_ok _ _ _ _ _ h e
theorem runC_len {c d : Ca} {es : List Ev} {hs : List Bool} (e : runC c es = some (d, hs)) : hs.length ≤ es.length := by
  have := runV_len _ _ _ _ _ e
  have := vls_len es
  simp at *; omega

/-- The steps of a trace, the misses of a run. -/
def stpN (es : List Ev) : Nat := (es.filter fun e => e.kind == 5).length
def misN (hs : List Bool) : Nat := (hs.filter fun h => !h).length
theorem stpN_app (es fs : List Ev) : stpN (es ++ fs) = stpN es + stpN fs := by simp [stpN]
theorem misN_app (hs gs : List Bool) : misN (hs ++ gs) = misN hs + misN gs := by simp [misN]
theorem stpN_yes {es : List Ev} {k : Nat} {x : Ev} (h : es[k]? = some x) (ht : x.kind = 5) : stpN (es.take (k + 1)) = stpN (es.take k) + 1 := by
  rw [take_snoc' h, stpN_app]; simp [stpN, ht]
theorem stpN_no {es : List Ev} {k : Nat} {x : Ev} (h : es[k]? = some x) (ht : x.kind ≠ 5) : stpN (es.take (k + 1)) = stpN (es.take k) := by
  rw [take_snoc' h, stpN_app]; simp [stpN, ht]
theorem stpN_le (es : List Ev) : stpN es ≤ es.length := List.length_filter_le _ _
theorem misN_le (hs : List Bool) : misN hs ≤ hs.length := List.length_filter_le _ _
theorem misN_yes {hs : List Bool} {k : Nat} (h : hs[k]? = some false) : misN (hs.take (k + 1)) = misN (hs.take k) + 1 := by
  rw [take_snoc' h, misN_app]; rfl
theorem misN_no {hs : List Bool} {k : Nat} (h : hs[k]? = some true) : misN (hs.take (k + 1)) = misN (hs.take k) := by
  rw [take_snoc' h, misN_app]; rfl
theorem stpN_all {es : List Ev} {n : Nat} (h : es.length = n) : stpN (es.take n) = stpN es := by rw [List.take_of_length_le (by omega)]
theorem misN_all {hs : List Bool} {n : Nat} (h : hs.length = n) : misN (hs.take n) = misN hs := by rw [List.take_of_length_le (by omega)]
theorem stpN_take_le (es : List Ev) (k : Nat) : stpN (es.take k) ≤ k := Nat.le_trans (stpN_le _) (by rw [List.length_take]; exact Nat.min_le_left _ _)
theorem misN_take_le (hs : List Bool) (k : Nat) : misN (hs.take k) ≤ k := Nat.le_trans (misN_le _) (by rw [List.length_take]; exact Nat.min_le_left _ _)

/-- The time of a trace. -/
def timC (c : Ca) (es : List Ev) : Int := match runC c es with
  | none => -1
  | some (_, hs) => (stpN es : Int) + 10 * (misN hs : Int)
theorem timC_some {c d : Ca} {es : List Ev} {hs : List Bool} (h : runC c es = some (d, hs)) : timC c es = (stpN es : Int) + 10 * (misN hs : Int) := by unfold timC; rw [h]
theorem timC_none {c : Ca} {es : List Ev} (h : runC c es = none) : timC c es = -1 := by unfold timC; rw [h]
theorem timC_app {c d : Ca} {es fs : List Ev} {hs : List Bool} (h : runC c es = some (d, hs)) (h2 : runC c (es ++ fs) ≠ none) : timC c (es ++ fs) = timC c es + timC d fs := by
  cases h3 : runC d fs with
  | none => rw [runC_app h, h3] at h2; exact absurd rfl h2
  | some x =>
    obtain ⟨e, gs⟩ := x
    rw [timC_some h, timC_some h3, timC_some (by rw [runC_app h, h3]; rfl), stpN_app, misN_app]
    push_cast; omega
theorem stp_vls : ∀ (es : List Ev), stpN es + (vls es).length ≤ es.length
  | [] => by simp [stpN, vls]
  | e :: es => by
    have ih := stp_vls es
    unfold stpN vls at ih ⊢
    rw [List.length_map] at ih ⊢
    by_cases h5 : e.kind = 5
    · have h1 : tch e = false := by unfold tch; rw [h5]; decide
      simp [h5, h1]; omega
    · by_cases h1 : tch e = true
      · simp [h5, h1]; omega
      · simp [h5, h1]; omega
theorem timC_le (c : Ca) (es : List Ev) : timC c es ≤ 10 * (es.length : Int) := by
  cases h : runC c es with
  | none => rw [timC_none h]; omega
  | some x =>
    obtain ⟨d, hs⟩ := x
    rw [timC_some h]
    have h1 := runV_len _ _ _ _ _ h
    have h2 := misN_le hs
    have h3 := stp_vls es
    simp at h1; omega
theorem timC_range (c : Ca) (es : List Ev) : -1 ≤ timC c es := by
  cases h : runC c es with
  | none => rw [timC_none h]; omega
  | some x => rw [timC_some (d := x.1) (hs := x.2) h]; omega

/-- The events that count. -/
def cnt (e : Ev) : Bool := decide (e.kind = 5 ∨ e.kind = 2 ∨ e.kind = 3)
theorem vls_cnt (es : List Ev) : vls (es.filter cnt) = vls es := by
  unfold vls
  rw [List.filter_filter]
  congr 2
  funext e
  unfold tch cnt
  by_cases h : e.kind = 2 ∨ e.kind = 3
  · simp [h]
  · simp [h]
theorem stpN_cnt (es : List Ev) : stpN (es.filter cnt) = stpN es := by
  unfold stpN
  rw [List.filter_filter]
  congr 2
  funext e
  unfold cnt
  by_cases h : e.kind = 5
  · simp [h]
  · simp [h]
theorem timC_cnt (c : Ca) (es : List Ev) : timC c (es.filter cnt) = timC c es := by
  unfold timC runC
  rw [vls_cnt, stpN_cnt]

end Go.Proofs.Yteoaecfjgbkefaa
