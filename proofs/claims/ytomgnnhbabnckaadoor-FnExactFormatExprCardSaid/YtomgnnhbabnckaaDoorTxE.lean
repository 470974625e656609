/- The text of an expression as plain data: of every valid expression down to five levels. No condition. -/
import Derived.Test.YtomgnnhbabnckaaDoorDat
import Derived.Lib.ItoaLen
namespace Go.Proofs.YtomgnnhbabnckaaDoor
open Go

def opB (k : Int) : UInt8 := if k = 4 then 43 else if k = 5 then 45 else if k = 6 then 42 else if k = 7 then 38 else if k = 8 then 94 else if k = 9 then 61 else 60
def kidD (es : List E) (i : Nat) : E := es.getD i ⟨0, 0, []⟩
/-- The text of an expression, down to d levels. -/
def txE : Nat → E → List UInt8
  | 0, _ => []
  | d + 1, e =>
    if e.kind = 1 then Lib.decDigits e.value.toNat
    else if e.kind = 2 then [UInt8.ofNat (97 + e.value.toNat)]
    else if e.kind = 3 then UInt8.ofNat (80 + e.value.toNat) :: 91 :: (txE d (kidD e.kids 0) ++ [93])
    else if e.kind = 11 then 40 :: (txE d (kidD e.kids 0) ++ 63 :: (txE d (kidD e.kids 1) ++ 58 :: (txE d (kidD e.kids 2) ++ [41])))
    else 40 :: (txE d (kidD e.kids 0) ++ opB e.kind :: (txE d (kidD e.kids 1) ++ [41]))
def ansE (p : Pg) (e : E) : List UInt8 := if exprB p e then txE 5 e else []

/-- The forms of a node that is as its kind asks. -/
theorem node_cases {nv na : Nat} {e : E} (h : nodeB nv na e = true) :
    (e.kind = 1 ∧ e.kids = [] ∧ ∃ v : Nat, v ≤ 255 ∧ e.value = v) ∨ (e.kind = 2 ∧ e.kids = [] ∧ ∃ v : Nat, v < nv ∧ e.value = v) ∨
    (e.kind = 3 ∧ (∃ x, e.kids = [x]) ∧ ∃ v : Nat, v < na ∧ e.value = v) ∨ (4 ≤ e.kind ∧ e.kind ≤ 10 ∧ e.value = 0 ∧ ∃ x y, e.kids = [x, y]) ∨ (e.kind = 11 ∧ e.value = 0 ∧ ∃ x y z, e.kids = [x, y, z]) := by
  unfold nodeB at h
  simp only [Bool.and_eq_true, decide_eq_true_iff] at h
  obtain ⟨⟨⟨h1, h2⟩, h3⟩, h4⟩ := h
  have h5 : e.kind = 1 ∨ e.kind = 2 ∨ e.kind = 3 ∨ (4 ≤ e.kind ∧ e.kind ≤ 10) ∨ e.kind = 11 ∨ (e.kind < 1 ∨ 11 < e.kind) := by omega
  rcases h5 with h5 | h5 | h5 | h5 | h5 | h5
  · refine .inl ⟨h5, ?_, e.value.toNat, ?_, ?_⟩
    · rw [h5] at h1; exact List.length_eq_zero_iff.1 (by simp [arity] at h1; simpa using h1)
    · rw [h5] at h3; simp [limit] at h3; omega
    · omega
  · refine .inr (.inl ⟨h5, ?_, e.value.toNat, ?_, ?_⟩)
    · rw [h5] at h1; exact List.length_eq_zero_iff.1 (by simp [arity] at h1; simpa using h1)
    · rw [h5] at h3; simp [limit] at h3; omega
    · omega
  · refine .inr (.inr (.inl ⟨h5, ?_, e.value.toNat, ?_, ?_⟩))
    · rw [h5] at h1
      have : e.kids.length = 1 := by simp [arity] at h1; omega
      exact List.length_eq_one_iff.1 this
    · rw [h5] at h3; simp [limit] at h3; omega
    · omega
  · refine .inr (.inr (.inr (.inl ⟨h5.1, h5.2, ?_, ?_⟩)))
    · unfold limit at h3
      rw [if_neg (by omega), if_neg (by omega), if_neg (by omega)] at h3
      omega
    · have : e.kids.length = 2 := by
        unfold arity at h1
        rw [if_neg (by omega), if_neg (by omega), if_pos (by omega)] at h1
        omega
      match hk : e.kids, this with
      | [x, y], _ => exact ⟨x, y, rfl⟩
  · refine .inr (.inr (.inr (.inr ⟨h5, ?_, ?_⟩)))
    · rw [h5] at h3; simp [limit] at h3; omega
    · rw [h5] at h1
      have : e.kids.length = 3 := by simp [arity] at h1; omega
      match hk : e.kids, this with
      | [x, y, z], _ => exact ⟨x, y, z, rfl⟩
  · exfalso
    unfold arity at h1
    rw [if_neg (by omega), if_neg (by omega), if_neg (by omega), if_neg (by omega)] at h1
    omega

theorem shape_node {nv na d : Nat} {e : E} (h : shapeB nv na (d + 1) e = true) : nodeB nv na e = true ∧ ∀ x ∈ e.kids, shapeB nv na d x = true := by
  rw [shapeB, Bool.and_eq_true] at h
  exact ⟨h.1, fun x hx => List.all_eq_true.1 h.2 x hx⟩

theorem txE_len (nv na : Nat) : ∀ (d : Nat) (e : E), shapeB nv na d e = true → (txE d e).length ≤ 24 * 4 ^ d
  | 0, _, h => by simp [shapeB] at h
  | d + 1, e, h => by
    obtain ⟨hn, hk⟩ := shape_node h
    have hp : 1 ≤ 4 ^ d := Nat.one_le_pow _ _ (by omega)
    have e4 : 4 ^ (d + 1) = 4 * 4 ^ d := by rw [Nat.pow_succ, Nat.mul_comm]
    rcases node_cases hn with ⟨h1, _, v, hv, hvv⟩ | ⟨h1, _⟩ | ⟨h1, ⟨x, hx⟩, _⟩ | ⟨h1, h2, _, x, y, hx⟩ | ⟨h1, _, x, y, z, hx⟩
    · rw [txE, if_pos h1, hvv, e4, Lib.decDigits_length]
      have := Lib.nDigits_le20 v (by omega)
      simp only [Int.toNat_natCast]
      omega
    · rw [txE, if_neg (by omega), if_pos h1, e4]
      simp; omega
    · have hxl := txE_len nv na d x (hk x (by rw [hx]; simp))
      rw [txE, if_neg (by omega), if_neg (by omega), if_pos h1, e4, hx]
      simp [kidD]; omega
    · have hxl := txE_len nv na d x (hk x (by rw [hx]; simp))
      have hyl := txE_len nv na d y (hk y (by rw [hx]; simp))
      rw [txE, if_neg (by omega), if_neg (by omega), if_neg (by omega), if_neg (by omega), e4, hx]
      simp [kidD]; omega
    · have hxl := txE_len nv na d x (hk x (by rw [hx]; simp))
      have hyl := txE_len nv na d y (hk y (by rw [hx]; simp))
      have hzl := txE_len nv na d z (hk z (by rw [hx]; simp))
      rw [txE, if_neg (by omega), if_neg (by omega), if_neg (by omega), if_pos h1, e4, hx]
      simp [kidD]; omega

end Go.Proofs.YtomgnnhbabnckaaDoor
