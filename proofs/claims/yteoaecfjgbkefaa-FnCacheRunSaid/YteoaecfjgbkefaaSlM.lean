/- The marking and holding helpers of the exact laws on slices of int. -/
import Derived.Test.YteoaecfjgbkefaaSl
namespace Go.Proofs.Yteoaecfjgbkefaa
open Go.RowKit

/-- The first k numbers are n0, n0 + 1, .. -/
def Marked (L : List Int) (n0 : Int) (k : Nat) : Prop := ∀ j, j < k → L.getD j 0 = n0 + j

theorem Marked.set {L : List Int} {n0 : Int} {k : Nat} (h : Marked L n0 k) (hk : k < L.length) : Marked (L.set k (n0 + k)) n0 (k + 1) := fun j hj => by
  by_cases e : j = k
  · subst e; simp [List.getD, hk]
  · have := h j (by omega)
    rw [← this]
    simp [List.getD, Ne.symm e]

/-- Behind markIntS: the row holds n0, n0 + 1, ..; nothing below it has changed. -/
def Wrote (w : World) (base : Nat) (v : Value) (n : Nat) (n0 : Int) (e : Ending) (w' : World) : Prop := e = .returned (.int .i64 (n0 + n)) ∧ Below base w w' ∧ ∃ L : List Int, L.length = n ∧ Marked L n0 n ∧ OwnI w' base v L

set_option maxHeartbeats 1000000 in
theorem mark_one (base : Nat) (v : Value) (xs : List Int) (n0 : Int) (w : World) (h : OwnI w base v xs) (hx : xs.length ≤ 4611686018427387904) (h0 : 0 ≤ n0) (h1 : n0 ≤ 1000000000) :
    Calls Try.prog 71 #[v, .int .i64 n0] w (Wrote w base v xs.length n0) := by
  rcases h.view with ⟨rfl, rfl⟩ | ⟨g, cap, rfl, hg, hlt, hm⟩
  · have H := Lib.hid h
    clear h
    go_enter Try.func71, Try.ntmps71
    go_wp2
    go_loop [1, 5] (fun c i => c = .int .i64 n0 ∧ i = .int .i64 0) (fun _ _ => 0)
    case atStart => exact ⟨rfl, rfl⟩
    case round =>
      obtain ⟨rfl, rfl⟩ := hrel
      go_wp2
      go_ret
      exact ⟨by simp, Below.refl _ _, [], rfl, (fun j hj => absurd hj (Nat.not_lt_zero _)), H.out⟩
  · obtain ⟨n, hn⟩ : ∃ n, xs.length = n := ⟨_, rfl⟩
    rw [hn] at hx ⊢
    have H : Hid (∃ L : List Int, L.length = n ∧ Marked L n0 0 ∧ OwnI w base (.slice (some ⟨g, 0, none⟩) n cap) L) := ⟨xs, hn, (fun j hj => absurd hj (Nat.not_lt_zero _)), by rw [← hn]; exact h⟩
    clear h hn hm
    go_enter Try.func71, Try.ntmps71
    go_wp2
    go_loopw [1, 5] (fun c i wr => ∃ k : Nat, k ≤ n ∧ i = .int .i64 k ∧ c = .int .i64 (n0 + k) ∧ Below base w wr ∧ ∃ L : List Int, L.length = n ∧ Marked L n0 k ∧ OwnI wr base (.slice (some ⟨g, 0, none⟩) n cap) L) (fun _ i _ => n - (intOf i).toNat)
    case atStart => exact ⟨0, Nat.zero_le _, rfl, by simp, Below.refl _ _, H.out⟩
    case round =>
      obtain ⟨k, hk, rfl, rfl, hb, L, hL, hM, hO⟩ := hrel
      have HB := Lib.hid hb
      have HL := Lib.hid hL
      have HM := Lib.hid hM
      have HO := Lib.hid hO
      clear hb hL hM H
      by_cases hlt' : k < n
      · have hO' : wr.ownsRow base 3 1 (.slice (some ⟨g, 0, none⟩) n cap) n (L.map (Value.int .i64)) := by have := HO.out; unfold OwnI at this; rw [HL.out] at this; exact this
        have hcell := hO'.cellAt k (by omega)
        have hfz := hO'.frozenAt k
        have hst := hO'.stored k (.int .i64 (n0 + k))
        have hsome : (wr.cell? ⟨g, k, none⟩).isSome = true := by rw [hcell]; simp [HL.out, hlt']
        obtain ⟨u, hu⟩ := Option.isSome_iff_exists.1 hsome
        have HS : Hid (OwnI (wr.setCell ⟨g, k, none⟩ (.int .i64 (n0 + k))) base (.slice (some ⟨g, 0, none⟩) n cap) (L.set k (n0 + k))) := by
          have := hst.1
          unfold OwnI
          rw [List.length_set, HL.out, List.map_set]
          exact this
        have HB2 : Hid (Below base w (wr.setCell ⟨g, k, none⟩ (.int .i64 (n0 + k)))) := HB.out.setCell (p := ⟨g, k, none⟩) hg _
        have HM2 := Lib.hid (HM.out.set (by rw [HL.out]; exact hlt'))
        clear hO hO' hcell hst hsome HB HO HM
        go_wp2
        go_roundw
        case rel => exact ⟨k + 1, by omega, by go_num, by go_num, HB2.out, _, by rw [List.length_set]; exact HL.out, HM2.out, HS.out⟩
        case measure => simp [intOf]; omega
      · obtain rfl : k = n := by omega
        clear hO
        go_wp2
        go_ret
        exact ⟨rfl, HB.out, L, HL.out, HM.out, HO.out⟩

/-- heldIntS: the row holds n0, n0 + 1, .. -/
def Held (n : Nat) (n0 : Int) (w : World) (e : Ending) (w' : World) : Prop := e = .returned (.int .i64 (n0 + n)) ∧ w' = w

set_option maxHeartbeats 1000000 in
theorem held_one (a : Option Addr) (n cap : Nat) (xs : List Int) (n0 : Int) (w : World) (h : SliceI w a n xs) (hM : Marked xs n0 n) (hx : n ≤ 4611686018427387904) (h0 : 0 ≤ n0) (h1 : n0 ≤ 1000000000) :
    Calls Try.prog 72 #[.slice a n cap, .int .i64 n0] w (Held n n0 w) := by
  obtain ⟨hm, hl, hc⟩ := h
  unfold maxLen at hm
  have HC : Hid (∀ k, k < n → ∃ b o, a = some ⟨b, o, none⟩ ∧ w.cell? ⟨b, o + k, none⟩ = some (.int .i64 (n0 + k))) := fun k hk => by
    obtain ⟨b, o, ha, hcell⟩ := hc k hk
    exact ⟨b, o, ha, by rw [hcell, hM k hk]⟩
  clear hc hl hM
  go_enter Try.func72, Try.ntmps72
  go_wp2
  go_loop [1, 5] (fun c i => ∃ k : Nat, k ≤ n ∧ i = .int .i64 k ∧ c = .int .i64 (n0 + k)) (fun _ i => n - (intOf i).toNat)
  case atStart => exact ⟨0, Nat.zero_le _, rfl, by simp⟩
  case round =>
    obtain ⟨k, hk, rfl, rfl⟩ := hrel
    by_cases hlt : k < n
    · obtain ⟨b, o, rfl, hcell⟩ := HC.out k hlt
      clear HC
      go_wp2
      go_round
      case rel => exact ⟨k + 1, by omega, by go_num, by go_num⟩
      case measure => simp [intOf]; omega
    · obtain rfl : k = n := by omega
      go_wp2
      go_ret
      exact ⟨rfl, rfl⟩

end Go.Proofs.Yteoaecfjgbkefaa
