/- Expression trees in rows of expressions, seen by the addresses of their nodes: they agree to every depth where the trees are equal, and only there. -/
import Derived.Test.YtjmfnpljkiobkaaTrC
import Derived.Test.YtjmfnpljkiobkaaToU
namespace Go.Proofs.Ytjmfnpljkiobkaa
open Go.RowKit Go.ChangeMaps
set_option linter.unusedVariables false

/-- A node of depth at most n that holds the tree e. -/
def NdE (W : World) (D : Nat → Prop) (n : Nat) (e : E) (x : Addr) : Prop := x.spot = none ∧ D x.block ∧ ∃ c0 c1 c2, W.cell? ⟨x.block, x.off, none⟩ = some c0 ∧ W.cell? ⟨x.block, x.off + 1, none⟩ = some c1 ∧ W.cell? ⟨x.block, x.off + 2, none⟩ = some c2 ∧ IsE W D n e [c0, c1, c2]
def kdW (W : World) (x : Addr) : List Addr := match W.cell? ⟨x.block, x.off + 2, none⟩ with
  | some (.slice a n _) => els a n
  | _ => []
def knW (W : World) (x : Addr) : Int × Int := match W.cell? ⟨x.block, x.off, none⟩, W.cell? ⟨x.block, x.off + 1, none⟩ with
  | some (.int _ k), some (.int _ v) => (k, v)
  | _, _ => (0, 0)
def szW (W : World) : Nat → Addr → Nat
  | 0, _ => 0
  | k + 1, x => 1 + sumS (szW W k) (kdW W x)
theorem sumS_congr {s t : Addr → Nat} : ∀ (l : List Addr), (∀ y ∈ l, s y = t y) → sumS s l = sumS t l
  | [], _ => rfl
  | x :: l, h => by rw [sumS, sumS, h x (by simp), sumS_congr l fun y hy => h y (by simp [hy])]

section
variable {W : World} {D : Nat → Prop}
theorem NdE.shape {n : Nat} {e : E} {x : Addr} (h : NdE W D (n + 1) e x) : ∃ a cap, W.cell? ⟨x.block, x.off, none⟩ = some (.int .i64 e.kind) ∧ W.cell? ⟨x.block, x.off + 1, none⟩ = some (.int .i64 e.value) ∧ W.cell? ⟨x.block, x.off + 2, none⟩ = some (.slice a e.kids.length cap) ∧ e.kids.length ≤ cap ∧ cap ≤ maxLen ∧
    (∀ b, a = some b → b.spot = none ∨ e.kids.length = 0) ∧ (els a e.kids.length).length = e.kids.length ∧ ∀ (i : Nat) (y : Addr), (els a e.kids.length)[i]? = some y → ∃ f : E, e.kids[i]? = some f ∧ NdE W D n f y := by
  obtain ⟨_, _, c0, c1, c2, h0, h1, h2, a, cap, hcs, hc, hm, hat⟩ := h
  cases hcs
  have hsp : ∀ b, a = some b → b.spot = none ∨ e.kids.length = 0 := fun b hb => by
    by_cases hk : e.kids.length = 0
    · exact .inr hk
    · obtain ⟨b', o, _, _, _, ha, _⟩ := hat 0 e.kids[0] (List.getElem?_eq_getElem (by omega))
      rw [hb] at ha
      cases ha
      exact .inl rfl
  have hlen : (els a e.kids.length).length = e.kids.length := by
    cases a with
    | none =>
      by_cases hk : e.kids.length = 0
      · rw [hk]; rfl
      · obtain ⟨b', o, _, _, _, ha, _⟩ := hat 0 e.kids[0] (List.getElem?_eq_getElem (by omega))
        cases ha
    | some b => simp [els]
  refine ⟨a, cap, h0, h1, h2, hc, hm, hsp, hlen, fun i y hy => ?_⟩
  have hi : i < e.kids.length := by rw [← hlen]; exact (List.getElem?_eq_some_iff.1 hy).1
  have hk := List.getElem?_eq_getElem hi
  obtain ⟨b, o, k0, k1, k2, ha, hD, e0, e1, e2, hE⟩ := hat i _ hk
  subst ha
  rw [els_at b o _ i hi] at hy
  cases hy
  exact ⟨_, hk, rfl, hD, k0, k1, k2, e0, e1, e2, hE⟩
theorem NdE.pos {n : Nat} {e : E} {x : Addr} (h : NdE W D n e x) : ∃ m, n = m + 1 := by
  cases n with
  | zero => obtain ⟨_, _, _, _, _, _, _, _, h⟩ := h; exact h.elim
  | succ m => exact ⟨m, rfl⟩
theorem NdE.kn {n : Nat} {e : E} {x : Addr} (h : NdE W D n e x) : knW W x = (e.kind, e.value) := by
  obtain ⟨m, rfl⟩ := h.pos
  obtain ⟨a, cap, h0, h1, _⟩ := h.shape
  unfold knW
  rw [h0, h1]
theorem NdE.kd {n : Nat} {e : E} {x : Addr} (h : NdE W D (n + 1) e x) : (kdW W x).length = e.kids.length ∧ ∀ (i : Nat) (y : Addr), (kdW W x)[i]? = some y → ∃ f : E, e.kids[i]? = some f ∧ NdE W D n f y := by
  obtain ⟨a, cap, h0, h1, h2, _, _, _, h3, h4⟩ := h.shape
  unfold kdW
  rw [h2]
  exact ⟨h3, h4⟩
theorem NdE.node {K n : Nat} {e : E} {x : Addr} (h : NdE W D n e x) (hn : n ≤ K) (hD : ∀ k, D k → PlB W k) : NodeW W (fun y => ∃ n e, n ≤ K ∧ NdE W D n e y) (kdW W) (knW W) x := by
  obtain ⟨m, rfl⟩ := h.pos
  obtain ⟨a, cap, h0, h1, h2, hc, hm, hsp, h3, h4⟩ := h.shape
  have hkd : kdW W x = els a e.kids.length := by unfold kdW; rw [h2]
  obtain ⟨cs, hcs⟩ := hD _ h.2.1
  refine ⟨⟨cs, (), hcs⟩, h.1, by rw [h.kn]; exact h0, by rw [h.kn]; exact h1, a, e.kids.length, cap, h2, ?_⟩
  exact ⟨hkd, by rw [hkd]; exact h3, hc, hm, fun y hy => by
    obtain ⟨i, hi⟩ := List.mem_iff_getElem?.1 hy
    obtain ⟨f, _, hf⟩ := h.kd.2 i y hi
    exact ⟨m, f, by omega, hf⟩, fun b hb hn => (hsp b hb).resolve_right (by omega)⟩
theorem NdE.sz : ∀ {n : Nat} {e : E} {x : Addr}, NdE W D n e x → ∀ k, n ≤ k → szW W k x = szW W n x
  | 0, _, _, h, _, _ => by obtain ⟨m, hm⟩ := h.pos; omega
  | n + 1, e, x, h, 0, hk => by omega
  | n + 1, e, x, h, k + 1, hk => by
    rw [szW, szW]
    congr 1
    refine sumS_congr _ fun y hy => ?_
    obtain ⟨i, hi⟩ := List.mem_iff_getElem?.1 hy
    obtain ⟨f, _, hf⟩ := h.kd.2 i y hi
    exact NdE.sz hf k (by omega)
theorem NdE.szle {n K : Nat} {e : E} {x : Addr} (h : NdE W D n e x) (hn : n ≤ K) : 1 + sumS (szW W K) (kdW W x) ≤ szW W K x := by
  obtain ⟨m, rfl⟩ := h.pos
  rw [h.sz K hn, szW]
  have : sumS (szW W K) (kdW W x) = sumS (szW W m) (kdW W x) := sumS_congr _ fun y hy => by
    obtain ⟨i, hi⟩ := List.mem_iff_getElem?.1 hy
    obtain ⟨f, _, hf⟩ := h.kd.2 i y hi
    exact hf.sz K (by omega)
  omega
theorem NdE.eq : ∀ {n m : Nat} {e f : E} {x y : Addr}, NdE W D n e x → NdE W D m f y → (∀ d, AgN (kdW W) (knW W) d x y) → e = f
  | 0, _, _, _, _, _, h, _, _ => by obtain ⟨m, hm⟩ := h.pos; omega
  | n + 1, m, e, f, x, y, h, h', hd => by
    obtain ⟨m', rfl⟩ := h'.pos
    obtain ⟨h1, h2, _⟩ := hd 1
    rw [h.kn, h'.kn] at h1
    obtain ⟨k1, k2⟩ := h.kd
    obtain ⟨k3, k4⟩ := h'.kd
    obtain ⟨ek, ev, es⟩ := e
    obtain ⟨fk, fv, fs⟩ := f
    simp only [Prod.mk.injEq] at h1
    obtain ⟨rfl, rfl⟩ := h1
    have : es = fs := by
      apply List.ext_getElem?
      intro i
      by_cases hi : i < (kdW W x).length
      · have hx := List.getElem?_eq_getElem hi
        have hy := List.getElem?_eq_getElem (l := kdW W y) (i := i) (by omega)
        obtain ⟨u, hu, hu'⟩ := k2 i _ hx
        obtain ⟨v, hv, hv'⟩ := k4 i _ hy
        have huv := NdE.eq hu' hv' fun d => (hd (d + 1)).2.2 i _ _ hx hy
        show es[i]? = fs[i]?
        rw [show es[i]? = some u from hu, show fs[i]? = some v from hv, huv]
      · have k1' : (kdW W x).length = es.length := k1
        have k3' : (kdW W y).length = fs.length := k3
        rw [List.getElem?_eq_none (by omega), List.getElem?_eq_none (by omega)]
    rw [this]
theorem NdE.ag {e : E} : ∀ (d : Nat) {n m : Nat} {e : E} {x y : Addr}, NdE W D n e x → NdE W D m e y → AgN (kdW W) (knW W) d x y
  | 0, _, _, _, _, _, _, _ => trivial
  | d + 1, n, m, e, x, y, h, h' => by
    obtain ⟨n', rfl⟩ := h.pos
    obtain ⟨m', rfl⟩ := h'.pos
    obtain ⟨k1, k2⟩ := h.kd
    obtain ⟨k3, k4⟩ := h'.kd
    refine ⟨by rw [h.kn, h'.kn], by omega, fun i a b ha hb => ?_⟩
    obtain ⟨u, hu, hu'⟩ := k2 i a ha
    obtain ⟨v, hv, hv'⟩ := k4 i b hb
    rw [hu] at hv
    cases hv
    exact NdE.ag (e := u) d hu' hv'
end

end Go.Proofs.Ytjmfnpljkiobkaa
