/- spec.FormatTrace, walked: for every list of at most 2^20 events it returns the text, or the empty text if one event is none; nothing that was there has changed. -/
import Derived.Test.YtkjppfocdkpnpaaDoorDec
import Derived.Lib.ItoaLen
import Derived.Deep.RegionHeld3
namespace Go.Proofs.YtkjppfocdkpnpaaDoor
open Go.RowKit
set_option linter.unusedVariables false

def okEv (x : Ev) : Bool := decide (1 ≤ x.kind) && decide (x.kind ≤ 4) && decide (0 ≤ x.value) && decide (x.value ≤ 255)
def evByte (k : Int) : UInt8 := if k = 1 then 98 else if k = 2 then 114 else if k = 3 then 119 else 111
def evTxt (x : Ev) : List UInt8 := evByte x.kind :: Lib.decDigits x.value.toNat
/-- The text of the first k events. -/
def ftT (es : List Ev) : Nat → List UInt8
  | 0 => []
  | k + 1 => ftT es k ++ (if k = 0 then [] else [32]) ++ evTxt (es.getD k ⟨0, 0⟩)
def ftA (es : List Ev) : List UInt8 := if es.all okEv then ftT es es.length else []
def GoodTo (es : List Ev) (k : Nat) : Prop := ∀ (j : Nat) (x : Ev), j < k → es[j]? = some x → okEv x = true
theorem GoodTo.succ {es : List Ev} {k : Nat} {x : Ev} (h : GoodTo es k) (hx : es[k]? = some x) (ho : okEv x = true) : GoodTo es (k + 1) := fun j y hj hy => by
  by_cases hjk : j = k
  · subst hjk; rw [hx] at hy; cases hy; exact ho
  · exact h j y (by omega) hy
theorem ftA_good {es : List Ev} (h : GoodTo es es.length) : ftA es = ftT es es.length := by
  unfold ftA
  rw [if_pos]
  rw [List.all_eq_true]
  intro x hx
  obtain ⟨j, hj, rfl⟩ := List.getElem_of_mem hx
  exact h j _ hj (List.getElem?_eq_getElem hj)
theorem ftA_bad {es : List Ev} {k : Nat} {x : Ev} (hx : es[k]? = some x) (ho : okEv x = false) : ftA es = [] := by
  unfold ftA
  rw [if_neg]
  intro h
  have := List.all_eq_true.1 h x (List.mem_of_getElem? hx)
  rw [ho] at this
  cases this
theorem okEv_cases {x : Ev} : (x.kind < 1 ∧ okEv x = false) ∨ (1 ≤ x.kind ∧ 4 < x.kind ∧ okEv x = false) ∨ (1 ≤ x.kind ∧ x.kind ≤ 4 ∧ x.value < 0 ∧ okEv x = false) ∨ (1 ≤ x.kind ∧ x.kind ≤ 4 ∧ 0 ≤ x.value ∧ 255 < x.value ∧ okEv x = false) ∨
    ((x.kind = 1 ∨ x.kind = 2 ∨ x.kind = 3 ∨ x.kind = 4) ∧ (∃ v : Nat, v ≤ 255 ∧ x.value = v) ∧ okEv x = true) := by
  by_cases h1 : x.kind < 1
  · exact .inl ⟨h1, by unfold okEv; simp; omega⟩
  by_cases h2 : 4 < x.kind
  · exact .inr (.inl ⟨by omega, h2, by unfold okEv; simp; omega⟩)
  by_cases h3 : x.value < 0
  · exact .inr (.inr (.inl ⟨by omega, by omega, h3, by unfold okEv; simp; omega⟩))
  by_cases h4 : 255 < x.value
  · exact .inr (.inr (.inr (.inl ⟨by omega, by omega, by omega, h4, by unfold okEv; simp; omega⟩)))
  exact .inr (.inr (.inr (.inr ⟨by omega, ⟨x.value.toNat, by omega, by omega⟩, by unfold okEv; simp; omega⟩)))
theorem dec_len (v : Nat) (h : v ≤ 255) : (Lib.decDigits v).length ≤ 20 := by
  rw [Lib.decDigits_length]
  exact Lib.nDigits_le20 v (by omega)
theorem ftT_len {es : List Ev} : ∀ k, k ≤ es.length → GoodTo es k → (ftT es k).length ≤ 22 * k
  | 0, _, _ => by simp [ftT]
  | k + 1, hk, hg => by
    have ih := ftT_len k (by omega) fun j x hj hx => hg j x (by omega) hx
    have e : es[k]? = some es[k] := List.getElem?_eq_getElem (by omega)
    have ho := hg k _ (Nat.lt_succ_self k) e
    have e2 : es.getD k ⟨0, 0⟩ = es[k] := by simp [List.getD, e]
    rw [ftT, e2]
    have hv : (Lib.decDigits es[k].value.toNat).length ≤ 20 := by
      refine dec_len _ ?_
      unfold okEv at ho
      simp at ho
      omega
    have hsep : (if k = 0 then ([] : List UInt8) else [32]).length ≤ 1 := by split <;> simp
    simp only [List.length_append, evTxt, List.length_cons]
    omega
theorem ftT_succ {es : List Ev} {k : Nat} {x : Ev} (hx : es[k]? = some x) : ftT es (k + 1) = ftT es k ++ (if k = 0 then [] else [32]) ++ evTxt x := by
  rw [ftT]
  have e2 : es.getD k ⟨0, 0⟩ = x := by simp [List.getD, hx]
  rw [e2]

theorem cut_brwo : (({ data := #[98, 114, 119, 111] } : ByteArray).extract 0 1 = ⟨[98].toArray⟩) ∧ (({ data := #[98, 114, 119, 111] } : ByteArray).extract 1 2 = ⟨[114].toArray⟩) ∧ (({ data := #[98, 114, 119, 111] } : ByteArray).extract 2 3 = ⟨[119].toArray⟩) ∧ (({ data := #[98, 114, 119, 111] } : ByteArray).extract 3 4 = ⟨[111].toArray⟩) := by decide

set_option maxRecDepth 100000 in
set_option maxHeartbeats 4000000 in
theorem sFT_one (es : List Ev) (a : Option Addr) (cap : Nat) (w : World) (h : EvL w es a cap) (hs : es.length ≤ 1048576) :
    Calls Tryd.prog 7 #[.slice a es.length cap] w (Txt (ftA es) w) := by
  obtain ⟨hc, hm, h⟩ := h
  obtain ⟨n, hn⟩ : ∃ n, es.length = n := ⟨_, rfl⟩
  have HN := Lib.hid hn
  rw [hn] at hc hs ⊢
  have H := Lib.hid h
  clear h hn hm hc
  go_enter Tryd.func7, Tryd.ntmps7
  go_wp2_with fail
  go_loopw [3, 4] (fun o i wr => ∃ k : Nat, k ≤ n ∧ i = .int .i64 k ∧ o = .string ⟨(ftT es k).toArray⟩ ∧ Hid (GoodTo es k) ∧ Below w.heap.size w wr) (fun _ i _ => n - (intOf i).toNat)
  case atStart => exact ⟨0, Nat.zero_le _, rfl, rfl, (fun j x hj => absurd hj (Nat.not_lt_zero _) : GoodTo es 0), Below.refl _ _⟩
  case round =>
    obtain ⟨k, hk, rfl, rfl, HG, hB⟩ := hrel
    have HB := Lib.hid hB
    have hlen := ftT_len k (by rw [HN.out]; exact hk) HG.out
    clear hB
    obtain ⟨t, ht⟩ : ∃ t, ftT es k = t := ⟨_, rfl⟩
    rw [ht] at hlen ⊢
    have HT := Lib.hid ht
    clear ht
    by_cases hlt : k < n
    · obtain ⟨x, hx⟩ : ∃ x, es[k]? = some x := ⟨es[k]'(by rw [HN.out]; exact hlt), List.getElem?_eq_getElem _⟩
      obtain ⟨b, o, rfl, hbl, e0, e1⟩ := H.out k x hx
      have r0 := (HB.out.cell (p := ⟨b, o + k * 2, none⟩) hbl).trans e0
      have r1 := (HB.out.cell (p := ⟨b, o + k * 2 + 1, none⟩) hbl).trans e1
      have HX := Lib.hid hx
      have HB2 : Hid (Below w.heap.size w (wr.alloc (.cells #[.int .i64 x.kind, .int .i64 x.value] 39))) := HB.out.alloc HB.out.size _
      clear e0 e1 hx H
      rcases okEv_cases (x := x) with ⟨h1, hb⟩ | ⟨h1, h2, hb⟩ | ⟨h1, h2, h3, hb⟩ | ⟨h1, h2, h3, h4, hb⟩ | ⟨hkd, ⟨v, hv, hxv⟩, hb⟩
      · have HA : Hid (ftA es = []) := ftA_bad HX.out hb
        clear hb
        go_wp2_with fail
        go_ret
        exact ⟨by rw [HA.out] <;> rfl, HB2.out⟩
      · have HA : Hid (ftA es = []) := ftA_bad HX.out hb
        clear hb
        go_wp2_with fail
        go_ret
        exact ⟨by rw [HA.out] <;> rfl, HB2.out⟩
      · have HA : Hid (ftA es = []) := ftA_bad HX.out hb
        clear hb
        go_wp2_with fail
        go_ret
        exact ⟨by rw [HA.out] <;> rfl, HB2.out⟩
      · have HA : Hid (ftA es = []) := ftA_bad HX.out hb
        clear hb
        go_wp2_with fail
        go_ret
        exact ⟨by rw [HA.out] <;> rfl, HB2.out⟩
      have HG2 : Hid (GoodTo es (k + 1)) := HG.out.succ HX.out hb
      have HFT := Lib.hid (ftT_succ HX.out)
      obtain ⟨kd, vl⟩ := x
      simp only at hxv hkd r0 r1 HB2
      subst hxv
      have hdl := dec_len v hv
      obtain ⟨dd, hdd⟩ : ∃ dd, Lib.decDigits v = dd := ⟨_, rfl⟩
      rw [hdd] at hdl
      have HDD := Lib.hid hdd
      clear hb hdd
      have qw0 : IntKind.i64.wrap 0 = 0 := by decide
      have qw1 : IntKind.i64.wrap 1 = 1 := by decide
      have qw2 : IntKind.i64.wrap 2 = 2 := by decide
      have qw3 : IntKind.i64.wrap 3 = 3 := by decide
      have qw4 : IntKind.i64.wrap 4 = 4 := by decide
      rcases hkd with rfl | rfl | rfl | rfl
      · go_wp2_with fail
        · have hk0 : ¬ k = 0 := by omega
          have HE : Hid (ftT es (k + 1) = t ++ ((32 : UInt8) :: 98 :: dd)) := by
            have : ftT es (k + 1) = t ++ ((32 : UInt8) :: 98 :: dd) := by
              rw [HFT.out, HT.out, if_neg hk0]
              unfold evTxt
              rw [show ((v : Int)).toNat = v from by simp, HDD.out]
              simp [evByte]
            exact this
          clear HFT
          obtain ⟨t2, ht2⟩ : ∃ t2, t ++ [(32 : UInt8)] = t2 := ⟨_, rfl⟩
          have hlen2 : t2.length ≤ 22 * k + 1 := by rw [← ht2]; simp; omega
          rw [show ({ data := t.toArray } : ByteArray) ++ { data := #[32] } = ⟨t2.toArray⟩ from by rw [← ht2]; exact cat_arr t [32]]
          have HT2 := Lib.hid ht2
          clear ht2
          have hl7 : ¬ 9223372036854775807 < t2.length + 1 := by omega
          have hl11 : ¬ 9223372036854775807 < t2.length + 1 + dd.length := by omega
          clear hk0 hlen
          obtain ⟨W1, hW1⟩ : ∃ W1, wr.alloc (.cells #[.int .i64 1, .int .i64 (v : Int)] 39) = W1 := ⟨_, rfl⟩
          have hz1 : wr.heap.size < W1.heap.size := by rw [← hW1]; simp
          have q0 : W1.cell? ⟨wr.heap.size, 0, none⟩ = some (.int .i64 1) := by rw [← hW1, cell_of_row _ _ _ _ _ _ (heap_alloc_new wr _)]; rfl
          have q1 : W1.cell? ⟨wr.heap.size, 1, none⟩ = some (.int .i64 (v : Int)) := by rw [← hW1, cell_of_row _ _ _ _ _ _ (heap_alloc_new wr _)]; rfl
          rw [hW1] at HB2 ⊢
          clear hW1
          have HS : Hid (∀ v', Below W1.heap.size W1 v' → v'.cell? ⟨wr.heap.size, 0, none⟩ = some (.int .i64 1) ∧ v'.cell? ⟨wr.heap.size, 1, none⟩ = some (.int .i64 (v : Int))) := fun v' hv' => ⟨(hv'.cell (p := ⟨wr.heap.size, 0, none⟩) hz1).trans q0, (hv'.cell (p := ⟨wr.heap.size, 1, none⟩) hz1).trans q1⟩
          have HBD : Hid (Below W1.heap.size W1 W1.drew) := (Below.refl _ _).drew
          go_region_held3 (fun v' => v'.cell? ⟨wr.heap.size, 0, none⟩ = some (.int .i64 1) ∧ v'.cell? ⟨wr.heap.size, 1, none⟩ = some (.int .i64 (v : Int))) (first | assumption | exact ⟨q0, q1⟩)
            (first
            | (go_at_call 20; (with_reducible refine (l17Dec_one v (by omega) W1.drew).mono ?_); rintro f w2 ⟨rfl, hA⟩; rw [HDD.out]; have hA2 := HBD.out.trans hA; have hS1 := HS.out _ hA2)
            | fail)
          all_goals
            have HB3 := Lib.hid (HB2.out.trans (hA2.mono HB2.out.size))
            clear hA hA2 hS1 q0 q1
            go_wp2_with fail
            go_roundw
            case rel => exact ⟨k + 1, by omega, by go_num, by rw [HE.out]; exact congrArg Value.string (by rw [← HT2.out]; rw [cut_brwo.1, cat_arr, cat_arr]; simp), HG2.out, HB3.out⟩
            case measure => simp [intOf]; omega
        · have hk0 : k = 0 := by omega
          have HE : Hid (ftT es (k + 1) = t ++ ((98 : UInt8) :: dd)) := by
            have : ftT es (k + 1) = t ++ ((98 : UInt8) :: dd) := by
              rw [HFT.out, HT.out, if_pos hk0]
              unfold evTxt
              rw [show ((v : Int)).toNat = v from by simp, HDD.out]
              simp [evByte]
            exact this
          clear HFT
          have hl7 : ¬ 9223372036854775807 < t.length + 1 := by omega
          have hl11 : ¬ 9223372036854775807 < t.length + 1 + dd.length := by omega
          clear hk0 hlen
          obtain ⟨W1, hW1⟩ : ∃ W1, wr.alloc (.cells #[.int .i64 1, .int .i64 (v : Int)] 39) = W1 := ⟨_, rfl⟩
          have hz1 : wr.heap.size < W1.heap.size := by rw [← hW1]; simp
          have q0 : W1.cell? ⟨wr.heap.size, 0, none⟩ = some (.int .i64 1) := by rw [← hW1, cell_of_row _ _ _ _ _ _ (heap_alloc_new wr _)]; rfl
          have q1 : W1.cell? ⟨wr.heap.size, 1, none⟩ = some (.int .i64 (v : Int)) := by rw [← hW1, cell_of_row _ _ _ _ _ _ (heap_alloc_new wr _)]; rfl
          rw [hW1] at HB2 ⊢
          clear hW1
          have HS : Hid (∀ v', Below W1.heap.size W1 v' → v'.cell? ⟨wr.heap.size, 0, none⟩ = some (.int .i64 1) ∧ v'.cell? ⟨wr.heap.size, 1, none⟩ = some (.int .i64 (v : Int))) := fun v' hv' => ⟨(hv'.cell (p := ⟨wr.heap.size, 0, none⟩) hz1).trans q0, (hv'.cell (p := ⟨wr.heap.size, 1, none⟩) hz1).trans q1⟩
          have HBD : Hid (Below W1.heap.size W1 W1.drew) := (Below.refl _ _).drew
          go_region_held3 (fun v' => v'.cell? ⟨wr.heap.size, 0, none⟩ = some (.int .i64 1) ∧ v'.cell? ⟨wr.heap.size, 1, none⟩ = some (.int .i64 (v : Int))) (first | assumption | exact ⟨q0, q1⟩)
            (first
            | (go_at_call 20; (with_reducible refine (l17Dec_one v (by omega) W1.drew).mono ?_); rintro f w2 ⟨rfl, hA⟩; rw [HDD.out]; have hA2 := HBD.out.trans hA; have hS1 := HS.out _ hA2)
            | fail)
          all_goals
            have HB3 := Lib.hid (HB2.out.trans (hA2.mono HB2.out.size))
            clear hA hA2 hS1 q0 q1
            go_wp2_with fail
            go_roundw
            case rel => exact ⟨k + 1, by omega, by go_num, by rw [HE.out]; exact congrArg Value.string (by rw [cut_brwo.1, cat_arr, cat_arr]; simp), HG2.out, HB3.out⟩
            case measure => simp [intOf]; omega
      · go_wp2_with fail
        · have hk0 : ¬ k = 0 := by omega
          have HE : Hid (ftT es (k + 1) = t ++ ((32 : UInt8) :: 114 :: dd)) := by
            have : ftT es (k + 1) = t ++ ((32 : UInt8) :: 114 :: dd) := by
              rw [HFT.out, HT.out, if_neg hk0]
              unfold evTxt
              rw [show ((v : Int)).toNat = v from by simp, HDD.out]
              simp [evByte]
            exact this
          clear HFT
          obtain ⟨t2, ht2⟩ : ∃ t2, t ++ [(32 : UInt8)] = t2 := ⟨_, rfl⟩
          have hlen2 : t2.length ≤ 22 * k + 1 := by rw [← ht2]; simp; omega
          rw [show ({ data := t.toArray } : ByteArray) ++ { data := #[32] } = ⟨t2.toArray⟩ from by rw [← ht2]; exact cat_arr t [32]]
          have HT2 := Lib.hid ht2
          clear ht2
          have hl7 : ¬ 9223372036854775807 < t2.length + 1 := by omega
          have hl11 : ¬ 9223372036854775807 < t2.length + 1 + dd.length := by omega
          clear hk0 hlen
          obtain ⟨W1, hW1⟩ : ∃ W1, wr.alloc (.cells #[.int .i64 2, .int .i64 (v : Int)] 39) = W1 := ⟨_, rfl⟩
          have hz1 : wr.heap.size < W1.heap.size := by rw [← hW1]; simp
          have q0 : W1.cell? ⟨wr.heap.size, 0, none⟩ = some (.int .i64 2) := by rw [← hW1, cell_of_row _ _ _ _ _ _ (heap_alloc_new wr _)]; rfl
          have q1 : W1.cell? ⟨wr.heap.size, 1, none⟩ = some (.int .i64 (v : Int)) := by rw [← hW1, cell_of_row _ _ _ _ _ _ (heap_alloc_new wr _)]; rfl
          rw [hW1] at HB2 ⊢
          clear hW1
          have HS : Hid (∀ v', Below W1.heap.size W1 v' → v'.cell? ⟨wr.heap.size, 0, none⟩ = some (.int .i64 2) ∧ v'.cell? ⟨wr.heap.size, 1, none⟩ = some (.int .i64 (v : Int))) := fun v' hv' => ⟨(hv'.cell (p := ⟨wr.heap.size, 0, none⟩) hz1).trans q0, (hv'.cell (p := ⟨wr.heap.size, 1, none⟩) hz1).trans q1⟩
          have HBD : Hid (Below W1.heap.size W1 W1.drew) := (Below.refl _ _).drew
          go_region_held3 (fun v' => v'.cell? ⟨wr.heap.size, 0, none⟩ = some (.int .i64 2) ∧ v'.cell? ⟨wr.heap.size, 1, none⟩ = some (.int .i64 (v : Int))) (first | assumption | exact ⟨q0, q1⟩)
            (first
            | (go_at_call 20; (with_reducible refine (l17Dec_one v (by omega) W1.drew).mono ?_); rintro f w2 ⟨rfl, hA⟩; rw [HDD.out]; have hA2 := HBD.out.trans hA; have hS1 := HS.out _ hA2)
            | fail)
          all_goals
            have HB3 := Lib.hid (HB2.out.trans (hA2.mono HB2.out.size))
            clear hA hA2 hS1 q0 q1
            go_wp2_with fail
            go_roundw
            case rel => exact ⟨k + 1, by omega, by go_num, by rw [HE.out]; exact congrArg Value.string (by rw [← HT2.out]; rw [cut_brwo.2.1, cat_arr, cat_arr]; simp), HG2.out, HB3.out⟩
            case measure => simp [intOf]; omega
        · have hk0 : k = 0 := by omega
          have HE : Hid (ftT es (k + 1) = t ++ ((114 : UInt8) :: dd)) := by
            have : ftT es (k + 1) = t ++ ((114 : UInt8) :: dd) := by
              rw [HFT.out, HT.out, if_pos hk0]
              unfold evTxt
              rw [show ((v : Int)).toNat = v from by simp, HDD.out]
              simp [evByte]
            exact this
          clear HFT
          have hl7 : ¬ 9223372036854775807 < t.length + 1 := by omega
          have hl11 : ¬ 9223372036854775807 < t.length + 1 + dd.length := by omega
          clear hk0 hlen
          obtain ⟨W1, hW1⟩ : ∃ W1, wr.alloc (.cells #[.int .i64 2, .int .i64 (v : Int)] 39) = W1 := ⟨_, rfl⟩
          have hz1 : wr.heap.size < W1.heap.size := by rw [← hW1]; simp
          have q0 : W1.cell? ⟨wr.heap.size, 0, none⟩ = some (.int .i64 2) := by rw [← hW1, cell_of_row _ _ _ _ _ _ (heap_alloc_new wr _)]; rfl
          have q1 : W1.cell? ⟨wr.heap.size, 1, none⟩ = some (.int .i64 (v : Int)) := by rw [← hW1, cell_of_row _ _ _ _ _ _ (heap_alloc_new wr _)]; rfl
          rw [hW1] at HB2 ⊢
          clear hW1
          have HS : Hid (∀ v', Below W1.heap.size W1 v' → v'.cell? ⟨wr.heap.size, 0, none⟩ = some (.int .i64 2) ∧ v'.cell? ⟨wr.heap.size, 1, none⟩ = some (.int .i64 (v : Int))) := fun v' hv' => ⟨(hv'.cell (p := ⟨wr.heap.size, 0, none⟩) hz1).trans q0, (hv'.cell (p := ⟨wr.heap.size, 1, none⟩) hz1).trans q1⟩
          have HBD : Hid (Below W1.heap.size W1 W1.drew) := (Below.refl _ _).drew
          go_region_held3 (fun v' => v'.cell? ⟨wr.heap.size, 0, none⟩ = some (.int .i64 2) ∧ v'.cell? ⟨wr.heap.size, 1, none⟩ = some (.int .i64 (v : Int))) (first | assumption | exact ⟨q0, q1⟩)
            (first
            | (go_at_call 20; (with_reducible refine (l17Dec_one v (by omega) W1.drew).mono ?_); rintro f w2 ⟨rfl, hA⟩; rw [HDD.out]; have hA2 := HBD.out.trans hA; have hS1 := HS.out _ hA2)
            | fail)
          all_goals
            have HB3 := Lib.hid (HB2.out.trans (hA2.mono HB2.out.size))
            clear hA hA2 hS1 q0 q1
            go_wp2_with fail
            go_roundw
            case rel => exact ⟨k + 1, by omega, by go_num, by rw [HE.out]; exact congrArg Value.string (by rw [cut_brwo.2.1, cat_arr, cat_arr]; simp), HG2.out, HB3.out⟩
            case measure => simp [intOf]; omega
      · go_wp2_with fail
        · have hk0 : ¬ k = 0 := by omega
          have HE : Hid (ftT es (k + 1) = t ++ ((32 : UInt8) :: 119 :: dd)) := by
            have : ftT es (k + 1) = t ++ ((32 : UInt8) :: 119 :: dd) := by
              rw [HFT.out, HT.out, if_neg hk0]
              unfold evTxt
              rw [show ((v : Int)).toNat = v from by simp, HDD.out]
              simp [evByte]
            exact this
          clear HFT
          obtain ⟨t2, ht2⟩ : ∃ t2, t ++ [(32 : UInt8)] = t2 := ⟨_, rfl⟩
          have hlen2 : t2.length ≤ 22 * k + 1 := by rw [← ht2]; simp; omega
          rw [show ({ data := t.toArray } : ByteArray) ++ { data := #[32] } = ⟨t2.toArray⟩ from by rw [← ht2]; exact cat_arr t [32]]
          have HT2 := Lib.hid ht2
          clear ht2
          have hl7 : ¬ 9223372036854775807 < t2.length + 1 := by omega
          have hl11 : ¬ 9223372036854775807 < t2.length + 1 + dd.length := by omega
          clear hk0 hlen
          obtain ⟨W1, hW1⟩ : ∃ W1, wr.alloc (.cells #[.int .i64 3, .int .i64 (v : Int)] 39) = W1 := ⟨_, rfl⟩
          have hz1 : wr.heap.size < W1.heap.size := by rw [← hW1]; simp
          have q0 : W1.cell? ⟨wr.heap.size, 0, none⟩ = some (.int .i64 3) := by rw [← hW1, cell_of_row _ _ _ _ _ _ (heap_alloc_new wr _)]; rfl
          have q1 : W1.cell? ⟨wr.heap.size, 1, none⟩ = some (.int .i64 (v : Int)) := by rw [← hW1, cell_of_row _ _ _ _ _ _ (heap_alloc_new wr _)]; rfl
          rw [hW1] at HB2 ⊢
          clear hW1
          have HS : Hid (∀ v', Below W1.heap.size W1 v' → v'.cell? ⟨wr.heap.size, 0, none⟩ = some (.int .i64 3) ∧ v'.cell? ⟨wr.heap.size, 1, none⟩ = some (.int .i64 (v : Int))) := fun v' hv' => ⟨(hv'.cell (p := ⟨wr.heap.size, 0, none⟩) hz1).trans q0, (hv'.cell (p := ⟨wr.heap.size, 1, none⟩) hz1).trans q1⟩
          have HBD : Hid (Below W1.heap.size W1 W1.drew) := (Below.refl _ _).drew
          go_region_held3 (fun v' => v'.cell? ⟨wr.heap.size, 0, none⟩ = some (.int .i64 3) ∧ v'.cell? ⟨wr.heap.size, 1, none⟩ = some (.int .i64 (v : Int))) (first | assumption | exact ⟨q0, q1⟩)
            (first
            | (go_at_call 20; (with_reducible refine (l17Dec_one v (by omega) W1.drew).mono ?_); rintro f w2 ⟨rfl, hA⟩; rw [HDD.out]; have hA2 := HBD.out.trans hA; have hS1 := HS.out _ hA2)
            | fail)
          all_goals
            have HB3 := Lib.hid (HB2.out.trans (hA2.mono HB2.out.size))
            clear hA hA2 hS1 q0 q1
            go_wp2_with fail
            go_roundw
            case rel => exact ⟨k + 1, by omega, by go_num, by rw [HE.out]; exact congrArg Value.string (by rw [← HT2.out]; rw [cut_brwo.2.2.1, cat_arr, cat_arr]; simp), HG2.out, HB3.out⟩
            case measure => simp [intOf]; omega
        · have hk0 : k = 0 := by omega
          have HE : Hid (ftT es (k + 1) = t ++ ((119 : UInt8) :: dd)) := by
            have : ftT es (k + 1) = t ++ ((119 : UInt8) :: dd) := by
              rw [HFT.out, HT.out, if_pos hk0]
              unfold evTxt
              rw [show ((v : Int)).toNat = v from by simp, HDD.out]
              simp [evByte]
            exact this
          clear HFT
          have hl7 : ¬ 9223372036854775807 < t.length + 1 := by omega
          have hl11 : ¬ 9223372036854775807 < t.length + 1 + dd.length := by omega
          clear hk0 hlen
          obtain ⟨W1, hW1⟩ : ∃ W1, wr.alloc (.cells #[.int .i64 3, .int .i64 (v : Int)] 39) = W1 := ⟨_, rfl⟩
          have hz1 : wr.heap.size < W1.heap.size := by rw [← hW1]; simp
          have q0 : W1.cell? ⟨wr.heap.size, 0, none⟩ = some (.int .i64 3) := by rw [← hW1, cell_of_row _ _ _ _ _ _ (heap_alloc_new wr _)]; rfl
          have q1 : W1.cell? ⟨wr.heap.size, 1, none⟩ = some (.int .i64 (v : Int)) := by rw [← hW1, cell_of_row _ _ _ _ _ _ (heap_alloc_new wr _)]; rfl
          rw [hW1] at HB2 ⊢
          clear hW1
          have HS : Hid (∀ v', Below W1.heap.size W1 v' → v'.cell? ⟨wr.heap.size, 0, none⟩ = some (.int .i64 3) ∧ v'.cell? ⟨wr.heap.size, 1, none⟩ = some (.int .i64 (v : Int))) := fun v' hv' => ⟨(hv'.cell (p := ⟨wr.heap.size, 0, none⟩) hz1).trans q0, (hv'.cell (p := ⟨wr.heap.size, 1, none⟩) hz1).trans q1⟩
          have HBD : Hid (Below W1.heap.size W1 W1.drew) := (Below.refl _ _).drew
          go_region_held3 (fun v' => v'.cell? ⟨wr.heap.size, 0, none⟩ = some (.int .i64 3) ∧ v'.cell? ⟨wr.heap.size, 1, none⟩ = some (.int .i64 (v : Int))) (first | assumption | exact ⟨q0, q1⟩)
            (first
            | (go_at_call 20; (with_reducible refine (l17Dec_one v (by omega) W1.drew).mono ?_); rintro f w2 ⟨rfl, hA⟩; rw [HDD.out]; have hA2 := HBD.out.trans hA; have hS1 := HS.out _ hA2)
            | fail)
          all_goals
            have HB3 := Lib.hid (HB2.out.trans (hA2.mono HB2.out.size))
            clear hA hA2 hS1 q0 q1
            go_wp2_with fail
            go_roundw
            case rel => exact ⟨k + 1, by omega, by go_num, by rw [HE.out]; exact congrArg Value.string (by rw [cut_brwo.2.2.1, cat_arr, cat_arr]; simp), HG2.out, HB3.out⟩
            case measure => simp [intOf]; omega
      · go_wp2_with fail
        · have hk0 : ¬ k = 0 := by omega
          have HE : Hid (ftT es (k + 1) = t ++ ((32 : UInt8) :: 111 :: dd)) := by
            have : ftT es (k + 1) = t ++ ((32 : UInt8) :: 111 :: dd) := by
              rw [HFT.out, HT.out, if_neg hk0]
              unfold evTxt
              rw [show ((v : Int)).toNat = v from by simp, HDD.out]
              simp [evByte]
            exact this
          clear HFT
          obtain ⟨t2, ht2⟩ : ∃ t2, t ++ [(32 : UInt8)] = t2 := ⟨_, rfl⟩
          have hlen2 : t2.length ≤ 22 * k + 1 := by rw [← ht2]; simp; omega
          rw [show ({ data := t.toArray } : ByteArray) ++ { data := #[32] } = ⟨t2.toArray⟩ from by rw [← ht2]; exact cat_arr t [32]]
          have HT2 := Lib.hid ht2
          clear ht2
          have hl7 : ¬ 9223372036854775807 < t2.length + 1 := by omega
          have hl11 : ¬ 9223372036854775807 < t2.length + 1 + dd.length := by omega
          clear hk0 hlen
          obtain ⟨W1, hW1⟩ : ∃ W1, wr.alloc (.cells #[.int .i64 4, .int .i64 (v : Int)] 39) = W1 := ⟨_, rfl⟩
          have hz1 : wr.heap.size < W1.heap.size := by rw [← hW1]; simp
          have q0 : W1.cell? ⟨wr.heap.size, 0, none⟩ = some (.int .i64 4) := by rw [← hW1, cell_of_row _ _ _ _ _ _ (heap_alloc_new wr _)]; rfl
          have q1 : W1.cell? ⟨wr.heap.size, 1, none⟩ = some (.int .i64 (v : Int)) := by rw [← hW1, cell_of_row _ _ _ _ _ _ (heap_alloc_new wr _)]; rfl
          rw [hW1] at HB2 ⊢
          clear hW1
          have HS : Hid (∀ v', Below W1.heap.size W1 v' → v'.cell? ⟨wr.heap.size, 0, none⟩ = some (.int .i64 4) ∧ v'.cell? ⟨wr.heap.size, 1, none⟩ = some (.int .i64 (v : Int))) := fun v' hv' => ⟨(hv'.cell (p := ⟨wr.heap.size, 0, none⟩) hz1).trans q0, (hv'.cell (p := ⟨wr.heap.size, 1, none⟩) hz1).trans q1⟩
          have HBD : Hid (Below W1.heap.size W1 W1.drew) := (Below.refl _ _).drew
          go_region_held3 (fun v' => v'.cell? ⟨wr.heap.size, 0, none⟩ = some (.int .i64 4) ∧ v'.cell? ⟨wr.heap.size, 1, none⟩ = some (.int .i64 (v : Int))) (first | assumption | exact ⟨q0, q1⟩)
            (first
            | (go_at_call 20; (with_reducible refine (l17Dec_one v (by omega) W1.drew).mono ?_); rintro f w2 ⟨rfl, hA⟩; rw [HDD.out]; have hA2 := HBD.out.trans hA; have hS1 := HS.out _ hA2)
            | fail)
          all_goals
            have HB3 := Lib.hid (HB2.out.trans (hA2.mono HB2.out.size))
            clear hA hA2 hS1 q0 q1
            go_wp2_with fail
            go_roundw
            case rel => exact ⟨k + 1, by omega, by go_num, by rw [HE.out]; exact congrArg Value.string (by rw [← HT2.out]; rw [cut_brwo.2.2.2, cat_arr, cat_arr]; simp), HG2.out, HB3.out⟩
            case measure => simp [intOf]; omega
        · have hk0 : k = 0 := by omega
          have HE : Hid (ftT es (k + 1) = t ++ ((111 : UInt8) :: dd)) := by
            have : ftT es (k + 1) = t ++ ((111 : UInt8) :: dd) := by
              rw [HFT.out, HT.out, if_pos hk0]
              unfold evTxt
              rw [show ((v : Int)).toNat = v from by simp, HDD.out]
              simp [evByte]
            exact this
          clear HFT
          have hl7 : ¬ 9223372036854775807 < t.length + 1 := by omega
          have hl11 : ¬ 9223372036854775807 < t.length + 1 + dd.length := by omega
          clear hk0 hlen
          obtain ⟨W1, hW1⟩ : ∃ W1, wr.alloc (.cells #[.int .i64 4, .int .i64 (v : Int)] 39) = W1 := ⟨_, rfl⟩
          have hz1 : wr.heap.size < W1.heap.size := by rw [← hW1]; simp
          have q0 : W1.cell? ⟨wr.heap.size, 0, none⟩ = some (.int .i64 4) := by rw [← hW1, cell_of_row _ _ _ _ _ _ (heap_alloc_new wr _)]; rfl
          have q1 : W1.cell? ⟨wr.heap.size, 1, none⟩ = some (.int .i64 (v : Int)) := by rw [← hW1, cell_of_row _ _ _ _ _ _ (heap_alloc_new wr _)]; rfl
          rw [hW1] at HB2 ⊢
          clear hW1
          have HS : Hid (∀ v', Below W1.heap.size W1 v' → v'.cell? ⟨wr.heap.size, 0, none⟩ = some (.int .i64 4) ∧ v'.cell? ⟨wr.heap.size, 1, none⟩ = some (.int .i64 (v : Int))) := fun v' hv' => ⟨(hv'.cell (p := ⟨wr.heap.size, 0, none⟩) hz1).trans q0, (hv'.cell (p := ⟨wr.heap.size, 1, none⟩) hz1).trans q1⟩
          have HBD : Hid (Below W1.heap.size W1 W1.drew) := (Below.refl _ _).drew
          go_region_held3 (fun v' => v'.cell? ⟨wr.heap.size, 0, none⟩ = some (.int .i64 4) ∧ v'.cell? ⟨wr.heap.size, 1, none⟩ = some (.int .i64 (v : Int))) (first | assumption | exact ⟨q0, q1⟩)
            (first
            | (go_at_call 20; (with_reducible refine (l17Dec_one v (by omega) W1.drew).mono ?_); rintro f w2 ⟨rfl, hA⟩; rw [HDD.out]; have hA2 := HBD.out.trans hA; have hS1 := HS.out _ hA2)
            | fail)
          all_goals
            have HB3 := Lib.hid (HB2.out.trans (hA2.mono HB2.out.size))
            clear hA hA2 hS1 q0 q1
            go_wp2_with fail
            go_roundw
            case rel => exact ⟨k + 1, by omega, by go_num, by rw [HE.out]; exact congrArg Value.string (by rw [cut_brwo.2.2.2, cat_arr, cat_arr]; simp), HG2.out, HB3.out⟩
            case measure => simp [intOf]; omega
    · obtain rfl : k = n := by omega
      have HA : Hid (ftA es = t) := by
        have : ftA es = t := by rw [ftA_good (by rw [HN.out]; exact HG.out), HN.out, HT.out]
        exact this
      clear H
      go_wp2_with fail
      go_ret
      exact ⟨by rw [HA.out] <;> rfl, HB.out⟩

end Go.Proofs.YtkjppfocdkpnpaaDoor
