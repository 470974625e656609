/- FormatTaint, the model's and the program's, walked: both answer the text of a taint map; nothing that was there changes. -/
import Derived.Test.YtjgmhncfijegmaaBb
import Derived.Test.YtjgmhncfijegmaaBdrB
import Derived.Laws.Concat
import Derived.WalkSpells
import Derived.Laws.IdiomStrings
namespace Go.Proofs.Ytjgmhncfijegmaa
open Go.RowKit Go.Shelf
set_option linter.unusedVariables false

def okR (r : List Bool) : Bool := decide (r.length = 0) || decide (r.length = 14)
def chB (b : Bool) : UInt8 := if b then 72 else 76
def txR (r : List Bool) : List UInt8 := r.map chB
def txL : List (List Bool) → List UInt8
  | [] => []
  | r :: rs => txR r ++ 10 :: txL rs
/-- The text of a taint map. -/
def fmtT (rs : List (List Bool)) : List UInt8 := if rs.length ≤ 400 ∧ rs.all okR = true then txL rs else []
theorem txL_app : ∀ (ra rs : List (List Bool)), txL (ra ++ rs) = txL ra ++ txL rs
  | [], rs => rfl
  | r :: ra, rs => by rw [List.cons_append, txL, txL, txL_app ra rs]; simp
theorem take_snocB {α : Type} {rs : List α} {k : Nat} {r : α} (h : rs[k]? = some r) : rs.take (k + 1) = rs.take k ++ [r] := by
  rw [List.take_add_one, h]; rfl
theorem txL_snoc {rs : List (List Bool)} {k : Nat} {r : List Bool} (h : rs[k]? = some r) : txL (rs.take (k + 1)) = txL (rs.take k) ++ txR r ++ [10] := by
  rw [take_snocB h, txL_app, txL]; simp [txL]
theorem txR_snoc {r : List Bool} {j : Nat} {x : Bool} (h : r[j]? = some x) : txR (r.take (j + 1)) = txR (r.take j) ++ [chB x] := by
  unfold txR; rw [take_snocB h, List.map_append]; rfl
/-- The first k rows are rows of a taint map. -/
def OkTo (rs : List (List Bool)) (k : Nat) : Prop := ∀ (j : Nat) (r : List Bool), j < k → rs[j]? = some r → okR r = true
theorem OkTo.succ {rs : List (List Bool)} {k : Nat} {r : List Bool} (h : OkTo rs k) (hr : rs[k]? = some r) (e : okR r = true) : OkTo rs (k + 1) := fun j y hj hy => by
  by_cases hk : j = k
  · subst hk
    rw [hr] at hy
    cases hy
    exact e
  · exact h j y (by omega) hy
theorem OkTo.all {rs : List (List Bool)} (h : OkTo rs rs.length) : rs.all okR = true := by
  rw [List.all_eq_true]
  intro x hx
  obtain ⟨i, hi, rfl⟩ := List.mem_iff_getElem.1 hx
  exact h i _ hi (List.getElem?_eq_getElem hi)
theorem txL_len : ∀ (rs : List (List Bool)), (∀ r ∈ rs, r.length ≤ 14) → (txL rs).length ≤ 15 * rs.length
  | [], _ => by simp [txL]
  | r :: rs, h => by
    have h1 := txL_len rs fun r hr => h r (by simp [hr])
    have h2 := h r (by simp)
    simp only [txL, txR, List.length_append, List.length_map, List.length_cons]
    omega
theorem OkTo.len {rs : List (List Bool)} {k : Nat} (h : OkTo rs k) (hk : k ≤ rs.length) : (txL (rs.take k)).length ≤ 15 * k := by
  have h1 := txL_len (rs.take k) fun r hr => by
    obtain ⟨i, hi, rfl⟩ := List.mem_iff_getElem.1 hr
    have hi' : i < k := by simp at hi; omega
    have h2 := h i _ hi' (List.getElem?_eq_getElem (by omega))
    rw [List.getElem_take]
    unfold okR at h2
    rw [Bool.or_eq_true, decide_eq_true_eq, decide_eq_true_eq] at h2
    omega
  rw [List.length_take] at h1
  omega
theorem fmtT_big {rs : List (List Bool)} (h : 400 < rs.length) : fmtT rs = [] := if_neg (by omega)
theorem fmtT_bad {rs : List (List Bool)} {k : Nat} {r : List Bool} (hr : rs[k]? = some r) (e : okR r = false) : fmtT rs = [] := if_neg fun h => by
  have := List.all_eq_true.1 h.2 r (List.mem_of_getElem? hr)
  rw [e] at this
  cases this
theorem fmtT_yes {rs : List (List Bool)} (h : OkTo rs rs.length) (hl : rs.length ≤ 400) : fmtT rs = txL rs := if_pos ⟨hl, h.all⟩
theorem cat_arr (l m : List UInt8) : (⟨l.toArray⟩ : ByteArray) ++ ⟨m.toArray⟩ = ⟨(l ++ m).toArray⟩ := by
  apply ByteArray.ext
  simp
theorem cat_1 (l : List UInt8) (c : UInt8) : (⟨l.toArray⟩ : ByteArray) ++ ⟨#[c]⟩ = ⟨(l ++ [c]).toArray⟩ := cat_arr l [c]
/-- A text; nothing that was there has changed. -/
def Txt (l : List UInt8) (w : World) (e : Ending) (w' : World) : Prop := e = .returned (.string ⟨l.toArray⟩) ∧ Below w.heap.size w w'
theorem okR_of {r : List Bool} {m : Nat} (h : r.length = m) (hm : m = 0 ∨ m = 14) : okR r = true := by unfold okR; rw [h]; rcases hm with rfl | rfl <;> rfl
theorem okR_no {r : List Bool} {m : Nat} (h : r.length = m) (h0 : m ≠ 0) (h1 : m ≠ 14) : okR r = false := by unfold okR; rw [h]; simp [h0, h1]

set_option maxRecDepth 100000 in
set_option maxHeartbeats 4000000 in
/-- **spec.FormatTaint.** -/
theorem sFTa_one (rs : List (List Bool)) (a : Option Addr) (n c : Nat) (w : World) (h : BBs w (fun b => b < w.heap.size) rs a) (hn : rs.length = n) (hm : n ≤ 1048576) :
    Calls Try.prog 6 #[.slice a n c] w (Txt (fmtT rs) w) := by
  have HN := Lib.hid hn
  have H : Hid (∀ k, k < n → ∃ r b o ra rc, rs[k]? = some r ∧ a = some ⟨b, o, none⟩ ∧ w.cell? ⟨b, o + k, none⟩ = some (.slice ra r.length rc) ∧ BAt w (fun b => b < w.heap.size) r ra) := fun k hk => by
    obtain ⟨r, b, o, ra, rc, h1, h2, _, h3, h4⟩ := h.get (i := k) (by omega)
    exact ⟨r, b, o, ra, rc, h1, h2, h3, h4⟩
  clear h hn
  by_cases hbig : 400 < n
  · have HF : Hid (fmtT rs = []) := fmtT_big (by rw [HN.out]; exact hbig)
    clear H
    go_enter Try.func6, Try.ntmps6
    go_wp2_with fail
    go_ret
    exact ⟨by rw [HF.out] <;> rfl, Below.refl _ _⟩
  go_enter Try.func6, Try.ntmps6
  go_wp2_with fail
  go_loopw [3, 4] (fun t i wr => ∃ k : Nat, k ≤ n ∧ i = .int .i64 k ∧ t = .string ⟨(txL (rs.take k)).toArray⟩ ∧ Hid (OkTo rs k) ∧ wr = w) (fun _ i _ => n - (intOf i).toNat)
  case atStart => exact ⟨0, Nat.zero_le _, rfl, rfl, (fun j r hj => absurd hj (Nat.not_lt_zero _) : OkTo rs 0), rfl⟩
  case round =>
    obtain ⟨k, hk, rfl, rfl, HI, rfl⟩ := hrel
    have hlen := HI.out.len (by rw [HN.out]; exact hk)
    obtain ⟨t, ht⟩ : ∃ t, txL (rs.take k) = t := ⟨_, rfl⟩
    rw [ht] at hlen ⊢
    have HTT := Lib.hid ht
    clear ht
    by_cases hlt : k < n
    · obtain ⟨r, b, o, ra, rc, hr, rfl, hcell, hat⟩ := H.out k hlt
      have HR := Lib.hid hr
      have HAT := Lib.hid hat
      obtain ⟨m, hml⟩ : ∃ m, r.length = m := ⟨_, rfl⟩
      have HML := Lib.hid hml
      rw [hml] at hcell
      clear hr hat H hml
      by_cases hok : m = 0 ∨ m = 14
      · have HI2 : Hid (OkTo rs (k + 1)) := HI.out.succ HR.out (okR_of HML.out hok)
        have hm14 : m ≤ 14 := by omega
        have hz : ((m : Int) != 0) = false ∨ ((m : Int) != 0) = true ∧ ((m : Int) != 14) = false := by
          rcases hok with rfl | rfl
          · exact .inl rfl
          · exact .inr ⟨rfl, rfl⟩
        clear HI hok
        rcases hz with hz | ⟨hz, hz2⟩
        all_goals
          go_wp2_with fail
          go_loopw [3, 5] (fun t2 i wr2 => ∃ j : Nat, j ≤ m ∧ i = .int .i64 j ∧ t2 = .string ⟨(t ++ txR (r.take j)).toArray⟩ ∧ wr2 = wr) (fun _ i _ => m - (intOf i).toNat)
          case atStart => exact ⟨0, Nat.zero_le _, rfl, by simp [txR], rfl⟩
          case round =>
            obtain ⟨j, hj, rfl, rfl, rfl⟩ := hrel
            have hll : (t ++ txR (r.take j)).length ≤ 15 * k + j := by
              rw [List.length_append]
              unfold txR
              rw [List.length_map, List.length_take]
              omega
            by_cases hlt2 : j < m
            · obtain ⟨x, hx⟩ : ∃ x, r[j]? = some x := ⟨r[j]'(by rw [HML.out]; exact hlt2), List.getElem?_eq_getElem _⟩
              obtain ⟨b2, o2, rfl, _, hc2⟩ := HAT.out.2 j x hx
              have HS := Lib.hid (txR_snoc hx)
              obtain ⟨t3, ht3⟩ : ∃ t3, t ++ txR (r.take j) = t3 := ⟨_, rfl⟩
              rw [ht3] at hll ⊢
              have HT3 := Lib.hid ht3
              have hl7 : ¬ 9223372036854775807 < t3.length + 1 := by omega
              clear hx ht3
              cases x
              all_goals
                go_wp2_with fail
                go_roundw
                case rel => exact ⟨j + 1, by omega, by go_num, by rw [HS.out, cat_1, ← List.append_assoc, HT3.out]; rfl, by first | rfl | trivial⟩
                case measure => simp [intOf]; omega
            · obtain rfl : j = m := by omega
              have HS := Lib.hid (txL_snoc HR.out)
              rw [HTT.out] at HS
              have e : r.take j = r := by rw [← HML.out, List.take_length]
              rw [e] at hll ⊢
              obtain ⟨t3, ht3⟩ : ∃ t3, t ++ txR r = t3 := ⟨_, rfl⟩
              rw [ht3] at hll HS ⊢
              have hl7 : ¬ 9223372036854775807 < t3.length + 1 := by omega
              clear ht3 e
              go_wp2_with fail
              go_roundw
              case rel => exact ⟨k + 1, by omega, by go_num, by rw [HS.out, cat_1], HI2.out, by first | rfl | trivial⟩
              case measure => simp [intOf]; omega
      · have HF : Hid (fmtT rs = []) := fmtT_bad HR.out (okR_no HML.out (by omega) (by omega))
        have h0 : ((m : Int) != 0) = true := by simp; omega
        have h1 : ((m : Int) != 14) = true := by simp; omega
        clear hok
        go_wp2_with fail
        go_ret
        exact ⟨by rw [HF.out] <;> rfl, Below.refl _ _⟩
    · obtain rfl : k = n := by omega
      have HF : Hid (fmtT rs = t) := by
        have h1 := fmtT_yes (rs := rs) (by rw [HN.out]; exact HI.out) (by rw [HN.out]; omega)
        have h2 := HTT.out
        rw [← HN.out, List.take_length] at h2
        exact h1.trans h2
      clear HI H
      go_wp2_with fail
      go_ret
      exact ⟨by rw [HF.out] <;> rfl, Below.refl _ _⟩

theorem isTR_one (r : List Bool) (a : Option Addr) (n c : Nat) (w : World) (hn : r.length = n) :
    Calls Try.prog 16 #[.slice a n c] w (fun e w' => e = .returned (.bool (okR r)) ∧ w' = w) := by
  have HN := Lib.hid hn
  clear hn
  by_cases hok : n = 0 ∨ n = 14
  · have HF : Hid (okR r = true) := okR_of HN.out hok
    rcases hok with rfl | rfl
    all_goals
      go_enter Try.func16, Try.ntmps16
      go_wp2_with fail
      go_ret
      exact ⟨by rw [HF.out] <;> rfl, rfl⟩
  · have HF : Hid (okR r = false) := okR_no HN.out (by omega) (by omega)
    have h0 : ((n : Int) == 0) = false := by simp; omega
    have h1 : ((n : Int) == 14) = false := by simp; omega
    clear hok
    go_enter Try.func16, Try.ntmps16
    go_wp2_with fail
    go_ret
    exact ⟨by rw [HF.out] <;> rfl, rfl⟩

set_option maxRecDepth 100000 in
set_option maxHeartbeats 8000000 in
/-- **impl.FormatTaint.** -/
theorem iFTa_one (rs : List (List Bool)) (a : Option Addr) (n c : Nat) (w : World) (h : BBs w (fun b => b < w.heap.size) rs a) (hn : rs.length = n) (hm : n ≤ 1048576) :
    Calls Try.prog 8 #[.slice a n c] w (Txt (fmtT rs) w) := by
  have HN := Lib.hid hn
  have H : Hid (∀ v, Below w.heap.size w v → ∀ k, k < n → ∃ r b o ra rc, rs[k]? = some r ∧ a = some ⟨b, o, none⟩ ∧ v.cell? ⟨b, o + k, none⟩ = some (.slice ra r.length rc)) := fun v hv k hk => by
    obtain ⟨r, b, o, ra, rc, h1, h2, _, h3, _⟩ := (h.below hv).get (i := k) (by omega)
    exact ⟨r, b, o, ra, rc, h1, h2, h3⟩
  have HR : Hid (∀ v, Below w.heap.size w v → ∀ k r b o ra rc, rs[k]? = some r → a = some ⟨b, o, none⟩ → v.cell? ⟨b, o + k, none⟩ = some (.slice ra r.length rc) → BAt w (fun b => b < w.heap.size) r ra) := fun v hv k r b o ra rc hr ha hc => by
    obtain ⟨b', o', ra', rc', h1, h2, h3, h4⟩ := h.2 k r hr
    rw [ha] at h1
    cases h1
    rw [hv.cell (p := ⟨b, o + k, none⟩) h2, h3] at hc
    cases hc
    exact h4
  clear h hn
  by_cases hbig : 400 < n
  · have HF : Hid (fmtT rs = []) := fmtT_big (by rw [HN.out]; exact hbig)
    clear H HR
    go_enter Try.func8, Try.ntmps8
    go_wp2_with fail
    go_ret
    exact ⟨by rw [HF.out] <;> rfl, Below.refl _ _⟩
  have b1 : Hid (IsB w.heap.size w.heap.size (txL (rs.take 0)) (w.alloc (.cells #[.pointer none, .slice none 0 0] 37))) := by
    have e := heap_alloc_new w (.cells #[.pointer none, .slice none 0 0] 37)
    exact .inl ⟨Nat.le_refl _, .slice none 0 0, e, World.ownsRowF_nil _ _ _ _, by simp [Value.ownBlock]⟩
  have HB0 : Hid (Below w.heap.size w (w.alloc (.cells #[.pointer none, .slice none 0 0] 37))) := (Below.refl _ w).alloc (Nat.le_refl _) _
  go_enter Try.func8, Try.ntmps8
  go_wp2_with fail
  go_loopw [13] (fun i wr => ∃ k : Nat, k ≤ n ∧ i = .int .i64 k ∧ Hid (OkTo rs k) ∧ Hid (IsB w.heap.size w.heap.size (txL (rs.take k)) wr) ∧ Below w.heap.size w wr) (fun i _ => n - (intOf i).toNat)
  case atStart => exact ⟨0, Nat.zero_le _, rfl, (fun j r hj => absurd hj (Nat.not_lt_zero _) : OkTo rs 0), b1, HB0.out⟩
  case round =>
    obtain ⟨k, hk, rfl, HI, HBD, hb⟩ := hrel
    have HB := Lib.hid hb
    have hlen := HI.out.len (by rw [HN.out]; exact hk)
    obtain ⟨t, ht⟩ : ∃ t, txL (rs.take k) = t := ⟨_, rfl⟩
    rw [ht] at hlen HBD
    have HTT := Lib.hid ht
    clear ht hb b1 HB0
    by_cases hlt : k < n
    · obtain ⟨r, b, o, ra, rc, hr, rfl, hcell⟩ := H.out wr HB.out k hlt
      have HAT := Lib.hid (HR.out wr HB.out k r b o ra rc hr rfl hcell)
      have HRR := Lib.hid hr
      obtain ⟨m, hml⟩ : ∃ m, r.length = m := ⟨_, rfl⟩
      have HML := Lib.hid hml
      rw [hml] at hcell
      have HIT : Hid (∀ v, Calls Try.prog 16 #[.slice ra m rc] v (fun e w' => e = .returned (.bool (okR r)) ∧ w' = v)) := fun v => isTR_one r ra m rc v hml
      clear hr H HR hml
      by_cases hok : m = 0 ∨ m = 14
      · have hokr := okR_of HML.out hok
        have HI2 : Hid (OkTo rs (k + 1)) := HI.out.succ HRR.out hokr
        have hm14 : m ≤ 14 := by omega
        rw [hokr] at HIT
        clear HI hok hokr
        go_wp2_with fail
        refine (HIT.out _).mono ?_
        rintro e w2 ⟨rfl, rfl⟩
        go_wp2_with fail
        go_loopw [22] (fun i wr2 => ∃ j : Nat, j ≤ m ∧ i = .int .i64 j ∧ Hid (IsB w.heap.size w.heap.size (t ++ txR (r.take j)) wr2) ∧ Below w.heap.size w wr2) (fun i _ => m - (intOf i).toNat)
        case atStart =>
          refine ⟨0, Nat.zero_le _, rfl, ?_, HB.out⟩
          have : t ++ txR (r.take 0) = t := by simp [txR]
          rw [this]; exact HBD
        case round =>
          clear HBD HB hcell HIT
          obtain ⟨j, hj, rfl, HBD, hb⟩ := hrel
          have HB := Lib.hid hb
          clear hb
          have hll : (t ++ txR (r.take j)).length ≤ 15 * k + j := by
            rw [List.length_append]
            unfold txR
            rw [List.length_map, List.length_take]
            omega
          by_cases hlt2 : j < m
          · obtain ⟨x, hx⟩ : ∃ x, r[j]? = some x := ⟨r[j]'(by rw [HML.out]; exact hlt2), List.getElem?_eq_getElem _⟩
            obtain ⟨b2, o2, rfl, hbl2, hc2⟩ := HAT.out.2 j x hx
            have hc3 := (HB.out.cell (p := ⟨b2, o2 + j, none⟩) hbl2).trans hc2
            have HS := Lib.hid (txR_snoc hx)
            obtain ⟨t3, ht3⟩ : ∃ t3, t ++ txR (r.take j) = t3 := ⟨_, rfl⟩
            rw [ht3] at hll HBD
            have HT3 := Lib.hid ht3
            have HW := Lib.hid (wByte w.heap.size w.heap.size t3 (chB x) _ HBD.out (by omega) HB.out.size)
            clear hx ht3 hc2
            cases x
            all_goals
              go_wp2_with fail
              refine HW.out.mono ?_
              rintro e w5 ⟨rfl, hbd5, hb5, _⟩
              have HBD5 : Hid (IsB w.heap.size w.heap.size (t ++ txR (r.take (j + 1))) w5) := by
                have : IsB w.heap.size w.heap.size (t ++ txR (r.take (j + 1))) w5 := by
                  rw [HS.out, ← List.append_assoc, HT3.out]; exact hbd5
                exact this
              have HB5 : Hid (Below w.heap.size w w5) := HB.out.trans hb5
              clear hbd5 hb5
              go_wp2_with fail
              go_roundw
              case rel => exact ⟨j + 1, by omega, by go_num, HBD5, HB5.out⟩
              case measure => simp [intOf]; omega
          · obtain rfl : j = m := by omega
            have HS := Lib.hid (txL_snoc HRR.out)
            rw [HTT.out] at HS
            rw [← HML.out, List.take_length] at hll HBD
            obtain ⟨t3, ht3⟩ : ∃ t3, t ++ txR r = t3 := ⟨_, rfl⟩
            rw [ht3] at hll HBD HS
            have HW := Lib.hid (wByte w.heap.size w.heap.size t3 10 _ HBD.out (by have := HML.out; omega) HB.out.size)
            clear ht3
            go_wp2_with fail
            refine HW.out.mono ?_
            rintro e w5 ⟨rfl, hbd5, hb5, _⟩
            have HBD5 : Hid (IsB w.heap.size w.heap.size (txL (rs.take (k + 1))) w5) := by
              have : IsB w.heap.size w.heap.size (txL (rs.take (k + 1))) w5 := by rw [HS.out]; exact hbd5
              exact this
            have HB5 : Hid (Below w.heap.size w w5) := HB.out.trans hb5
            clear hbd5 hb5
            go_wp2_with fail
            go_roundw
            case rel => exact ⟨k + 1, by omega, by go_num, HI2, HBD5, HB5.out⟩
            case measure => simp [intOf]; omega
      · have hokr := okR_no HML.out (fun e => hok (.inl e)) (fun e => hok (.inr e))
        have HF : Hid (fmtT rs = []) := fmtT_bad HRR.out hokr
        rw [hokr] at HIT
        clear hok hokr HI
        go_wp2_with fail
        refine (HIT.out _).mono ?_
        rintro e w2 ⟨rfl, rfl⟩
        go_wp2_with fail
        go_ret
        exact ⟨by rw [HF.out] <;> rfl, HB.out⟩
    · obtain rfl : k = n := by omega
      have HF : Hid (fmtT rs = t) := by
        have h1 := fmtT_yes (rs := rs) (by rw [HN.out]; exact HI.out) (by rw [HN.out]; omega)
        have h2 := HTT.out
        rw [← HN.out, List.take_length] at h2
        exact h1.trans h2
      clear HI H HR
      go_wp2_with fail
      refine (Try.Builder_String_any_k w.heap.size w.heap.size t _ HBD.out HB.out.size).mono ?_
      rintro e w2 ⟨rfl, hbd, hb2, hk2⟩
      have HB2 := Lib.hid (HB.out.trans hb2)
      clear hbd hb2 hk2
      go_wp2_with fail
      go_ret
      exact ⟨by rw [HF.out] <;> rfl, HB2.out⟩

end Go.Proofs.Ytjgmhncfijegmaa
