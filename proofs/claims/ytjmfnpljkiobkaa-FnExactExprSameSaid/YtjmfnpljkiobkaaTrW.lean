/- The program's treesSame at expressions, walked. -/
import Derived.Test.YtjmfnpljkiobkaaTrC
import Derived.Test.YtjmfnpljkiobkaaDrawB
import Derived.Deep.RegionHeld3
import Derived.Deep.RegionLaw
import Derived.Deep.CutRange
import Derived.Deep.AppendLies
import Derived.Laws.OwnMore
namespace Go.Proofs.Ytjmfnpljkiobkaa
open Go.RowKit Go.ChangeMaps
set_option linter.unusedVariables false

/-- A slice of expressions. -/
abbrev Sl3 := Option Addr × Nat × Nat
abbrev sv (s : Sl3) : Value := .slice s.1 s.2.1 s.2.2
/-- The cells of a list of waiting pairs. -/
def flatW : List (Sl3 × Sl3) → List Value
  | [] => []
  | p :: ps => sv p.1 :: sv p.2 :: flatW ps
theorem flatW_len : ∀ ps, (flatW ps).length = ps.length * 2
  | [] => rfl
  | p :: ps => by rw [flatW, List.length_cons, List.length_cons, flatW_len ps, List.length_cons]; omega
theorem flatW_app : ∀ ps qs, flatW (ps ++ qs) = flatW ps ++ flatW qs
  | [], qs => rfl
  | p :: ps, qs => by simp [flatW, flatW_app ps qs]
def RowW (w : World) (base : Nat) (v : Value) (ps : List (Sl3 × Sl3)) : Prop := w.ownsRow base 84 2 v ps.length (flatW ps)

theorem RowW.first (w : World) (s t : Sl3) (base : Nat) (hb : base ≤ w.heap.size) : RowW (w.alloc (.cells #[sv s, sv t] 84)) base (.slice (some ⟨w.heap.size, 0, none⟩) 1 1) [(s, t)] :=
  ⟨rfl, .inr ⟨w.heap.size, 1, #[sv s, sv t], rfl, hb, heap_alloc_new w _, Nat.le_refl _, by unfold maxLen; omega, rfl, rfl⟩⟩
theorem flatW_at : ∀ (ps : List (Sl3 × Sl3)) (i : Nat) (p : Sl3 × Sl3), ps[i]? = some p → (flatW ps)[i * 2]? = some (sv p.1) ∧ (flatW ps)[i * 2 + 1]? = some (sv p.2)
  | [], i, p, h => by simp at h
  | q :: ps, 0, p, h => by simp at h; subst h; exact ⟨rfl, rfl⟩
  | q :: ps, i + 1, p, h => by
    obtain ⟨h1, h2⟩ := flatW_at ps i p (by simpa using h)
    rw [flatW, show (i + 1) * 2 = i * 2 + 1 + 1 by omega]
    exact ⟨by simpa using h1, by simpa using h2⟩
theorem flatW_take : ∀ (ps : List (Sl3 × Sl3)) (i : Nat), flatW (ps.take i) = (flatW ps).take (i * 2)
  | [], i => by simp [flatW]
  | q :: ps, 0 => by simp [flatW]
  | q :: ps, i + 1 => by
    rw [List.take_succ_cons, flatW, flatW, flatW_take ps i, show (i + 1) * 2 = i * 2 + 1 + 1 by omega, List.take_succ_cons, List.take_succ_cons]
/-- The last one: where it lies; and the row without it. -/
theorem RowW.last {w : World} {base k cap : Nat} {a : Option Addr} {ps : List (Sl3 × Sl3)} (h : RowW w base (.slice a (k + 1) cap) ps) (hk : ps.length = k + 1) (p : Sl3 × Sl3) (hp : ps[k]? = some p) :
    ∃ g, a = some ⟨g, 0, none⟩ ∧ base ≤ g ∧ g < w.heap.size ∧ k + 1 ≤ cap ∧ cap ≤ maxLen ∧ w.cell? ⟨g, k * 2, none⟩ = some (sv p.1) ∧ w.cell? ⟨g, k * 2 + 1, none⟩ = some (sv p.2) ∧ RowW w base (.slice a k cap) (ps.take k) := by
  have h' : RowW w base (.slice a ps.length cap) ps := by rw [hk]; exact h
  rcases h'.2 with ⟨e1, e2⟩ | ⟨g, cp, cur, e1, h2, h3, h4, h5, h6, h7⟩
  · omega
  · cases e1
    obtain ⟨f1, f2⟩ := flatW_at ps k p hp
    rw [hk] at h4 h7
    rw [← h7] at f1 f2
    rw [List.getElem?_take, if_pos (by omega)] at f1 f2
    refine ⟨g, rfl, h2, (Array.getElem?_eq_some_iff.1 h3).1, h4, h5, ?_, ?_, ?_⟩
    · rw [cell_at h3]; simpa using f1
    · rw [cell_at h3]; simpa using f2
    · have hl : (ps.take k).length = k := by rw [List.length_take, hk]; omega
      refine ⟨by rw [flatW_len], .inr ⟨g, cap, cur, by rw [hl], h2, h3, by rw [hl]; omega, h5, h6, ?_⟩⟩
      rw [hl, flatW_take, ← h7, List.take_take, Nat.min_eq_left (by omega)]

theorem Owed.perm {kd : Addr → List Addr} {kn : Addr → Int × Int} {L : List (Addr × Addr)} {A B : List Addr} {ws ws' : List (List Addr × List Addr)} (h : Owed kd kn L A B ws) (hp : ∀ p, p ∈ ws ↔ p ∈ ws') : Owed kd kn L A B ws' :=
  ⟨fun z hz => ⟨(h.mem z hz).1, (h.mem z hz).2.imp id (hp _).1⟩, h.root.imp id (hp _).1, fun hA p hp' => h.same hA p ((hp p).2 hp')⟩

theorem len_wei (sz : Addr → Nat) : ∀ ws : List (List Addr × List Addr), ws.length ≤ wei sz ws
  | [] => Nat.zero_le _
  | p :: ws => by rw [List.length_cons, wei]; have := len_wei sz ws; omega
theorem infoPr : (Try.prog.info? 84).map (fun i => (i.zero, i.size, i.bytes)) = some (some (.agg #[.slice none 0 0, .slice none 0 0]), 2, 48) := by kernel_rfl

/-- What treesSame knows of its world. -/
structure TW (w0 : World) (M : Nat) (N : Addr → Prop) (kd : Addr → List Addr) (kn : Addr → Int × Int) (A B : List Addr) (f : Addr → Option Addr) (L : List (Addr × Addr)) (ps : List (Sl3 × Sl3)) (ws : List (List Addr × List Addr)) (v : Value) (u : World) : Prop where
  map : MapF u M f
  rank : ∃ rk, RankF rk f
  gen : Gen L f
  node : ∀ x, N x → NodeW u N kd kn x
  oth : w0.heap.size ≤ u.heap.size ∧ ∀ b, b < w0.heap.size → b ≠ M → u.heap[b]? = w0.heap[b]?
  bel : Below M w0 u
  row : RowW u w0.heap.size v ps
  sl : ps.length = ws.length ∧ ∀ (i : Nat) (p : Sl3 × Sl3) (q : List Addr × List Addr), ps[i]? = some p → ws[i]? = some q → SlN N p.1.1 p.1.2.1 p.1.2.2 q.1 ∧ SlN N p.2.1 p.2.2.1 p.2.2.2 q.2
  hM : M < w0.heap.size
  nb : ∀ x, N x → x.block < w0.heap.size

theorem TW.drewN {w0 : World} {M : Nat} {N : Addr → Prop} {kd : Addr → List Addr} {kn : Addr → Int × Int} {A B : List Addr} {f : Addr → Option Addr} {L : List (Addr × Addr)} {ps : List (Sl3 × Sl3)} {ws : List (List Addr × List Addr)} {v : Value} {u : World}
    (h : TW w0 M N kd kn A B f L ps ws v u) (m : Nat) : TW w0 M N kd kn A B f L ps ws v (u.drewN m) :=
  ⟨h.map, h.rank, h.gen, fun x hx => (h.node x hx).stand rfl, h.oth, ⟨h.bel.os, h.bel.tape, h.bel.output, h.bel.size, h.bel.block⟩, h.row, h.sl, h.hM, h.nb⟩
/-- Behind U: only new blocks are written. -/
def Bel (U v : World) : Prop := Below U.heap.size U v
theorem Bel.refl (U : World) : Bel U U := Below.refl _ _
theorem Bel.drew {U v : World} (h : Bel U v) : Bel U v.drew := Below.drew h
theorem Bel.alloc {U v : World} (h : Bel U v) (o : Obj) : Bel U (v.alloc o) := Below.alloc h (Below.size h) o
theorem Bel.call {U v v' : World} (h : Bel U v) (k : Below v.heap.size v v') : Bel U v' := Below.trans h (k.mono (Below.size h))
theorem Bel.set {U v : World} (h : Bel U v) {g : Nat} (hg : U.heap.size ≤ g) (o : Nat) (x : Value) : Bel U (v.setCell ⟨g, o, none⟩ x) := Below.setCell (p := ⟨g, o, none⟩) h hg x
/-- A box that no store has met yet. -/
def BxN (v : World) (g : Nat) : Prop := v.heap[g]? = some (.cells #[.slice none 0 0, .slice none 0 0] 84 (0, 0))

/-- Behind the region: both boxes hold the branches. -/
structure BxT (U : World) (g16 g17 : Nat) (s t : Sl3) (X : World) : Prop where
  bel : Bel U X
  h16 : X.heap[g16]? = some (.cells #[sv s, .slice none 0 0] 84 (0, 0))
  h17 : X.heap[g17]? = some (.cells #[sv t, .slice none 0 0] 84 (0, 0))
  ne : g16 ≠ g17
  l16 : U.heap.size ≤ g16
  l17 : U.heap.size ≤ g17
theorem bx_new (v : World) : BxN (v.alloc (.cells #[.slice none 0 0, .slice none 0 0] 84)) v.heap.size := heap_alloc_new v _
theorem bx_old {v : World} {g : Nat} {o : Obj} (h : BxN v g) : BxN (v.alloc o) g := (Below.heap_alloc _ _ _ (Array.getElem?_eq_some_iff.1 h).1).trans h
theorem bx_new2 (v : World) {o : Obj} : BxN ((v.alloc o).alloc (.cells #[.slice none 0 0, .slice none 0 0] 84)) (v.heap.size + 1) := by
  have h := bx_new (v.alloc o)
  rw [World.size_alloc] at h
  exact h
theorem BxN.lt {v : World} {g : Nat} (h : BxN v g) : g < v.heap.size := (Array.getElem?_eq_some_iff.1 h).1
theorem frz_at {w : World} {b : Nat} {cs : Array Value} {T : TypeId} (h : w.heap[b]? = some (.cells cs T (0, 0))) (o : Nat) : w.frozen? ⟨b, o, none⟩ = false := by simp [World.frozen?, h]
theorem st2 {V : World} {g g' : Nat} (h : BxN V g) (h' : BxN V g') (hne : g ≠ g') (s t : Value) : V.cell? ⟨g, 0, none⟩ = some (.slice none 0 0) ∧ V.cell? ⟨g, 1, none⟩ = some (.slice none 0 0) ∧ V.frozen? ⟨g, 0, none⟩ = false ∧ V.frozen? ⟨g, 1, none⟩ = false ∧
    ((V.setCell ⟨g, 0, none⟩ s).setCell ⟨g, 1, none⟩ t).cell? ⟨g', 0, none⟩ = some (.slice none 0 0) ∧ ((V.setCell ⟨g, 0, none⟩ s).setCell ⟨g, 1, none⟩ t).cell? ⟨g', 1, none⟩ = some (.slice none 0 0) ∧ ((V.setCell ⟨g, 0, none⟩ s).setCell ⟨g, 1, none⟩ t).frozen? ⟨g', 0, none⟩ = false ∧ ((V.setCell ⟨g, 0, none⟩ s).setCell ⟨g, 1, none⟩ t).frozen? ⟨g', 1, none⟩ = false := by
  have h2 : ((V.setCell ⟨g, 0, none⟩ s).setCell ⟨g, 1, none⟩ t).heap[g']? = some (.cells #[.slice none 0 0, .slice none 0 0] 84 (0, 0)) := ((Below.heap_setCell _ _ _ _ (by simpa using fun e => hne e.symm)).trans (Below.heap_setCell _ _ _ _ (by simpa using fun e => hne e.symm))).trans h'
  exact ⟨cell_at h 0, cell_at h 1, frz_at h 0, frz_at h 1, cell_at h2 0, cell_at h2 1, frz_at h2 0, frz_at h2 1⟩

theorem RowW.far {w w' : World} {base : Nat} {v : Value} {ps : List (Sl3 × Sl3)} (h : RowW w base v ps) (hs : ∀ g, v.ownBlock = some g → g < w.heap.size → w'.heap[g]? = w.heap[g]?) : RowW w' base v ps := by
  refine ⟨h.1, ?_⟩
  rcases h.2 with h1 | ⟨g, cap, cur, e, h2, h3, h4⟩
  · exact .inl h1
  · exact .inr ⟨g, cap, cur, e, h2, (hs g (by rw [e]; rfl) (Array.getElem?_eq_some_iff.1 h3).1).trans h3, h4⟩
theorem RowW.lt {w : World} {base : Nat} {v : Value} {ps : List (Sl3 × Sl3)} (h : RowW w base v ps) (g : Nat) (hg : v.ownBlock = some g) : base ≤ g ∧ g < w.heap.size := by
  rcases h.2 with ⟨h1, _⟩ | ⟨g', cap, cur, e, h2, h3, h4⟩
  · rw [h1] at hg; cases hg
  · rw [e] at hg; cases hg; exact ⟨h2, (Array.getElem?_eq_some_iff.1 h3).1⟩
/-- On, where only new blocks were written. -/
theorem TW.later {w0 : World} {M : Nat} {N : Addr → Prop} {kd : Addr → List Addr} {kn : Addr → Int × Int} {A B : List Addr} {f : Addr → Option Addr} {L : List (Addr × Addr)} {ps : List (Sl3 × Sl3)} {ws : List (List Addr × List Addr)} {v : Value} {u u' : World}
    (h : TW w0 M N kd kn A B f L ps ws v u) (hb : Bel u u') : TW w0 M N kd kn A B f L ps ws v u' := by
  have hs : ∀ b, b < u.heap.size → u'.heap[b]? = u.heap[b]? := fun b hb' => Below.block hb b hb'
  have hMu : M < u.heap.size := Nat.lt_of_lt_of_le h.hM h.bel.size
  refine ⟨h.map.stand hs, h.rank, h.gen, fun x hx => (h.node x hx).stand (hs _ ?_), ⟨Nat.le_trans h.oth.1 (Below.size hb), fun b hb' hbM => (hs b (by have := h.oth.1; omega)).trans (h.oth.2 b hb' hbM)⟩, h.bel.trans (Below.mono hb (by omega)), h.row.far fun g _ hg => hs g hg, h.sl, h.hM, h.nb⟩
  obtain ⟨cs, T, h1⟩ := (h.node x hx).pl
  exact (Array.getElem?_eq_some_iff.1 h1).1
/-- On, where only the map was written. -/
theorem TW.only {w0 : World} {M : Nat} {N : Addr → Prop} {kd : Addr → List Addr} {kn : Addr → Int × Int} {A B : List Addr} {f f' : Addr → Option Addr} {L L' : List (Addr × Addr)} {ps : List (Sl3 × Sl3)} {ws : List (List Addr × List Addr)} {v : Value} {u u' : World}
    (h : TW w0 M N kd kn A B f L ps ws v u) (ho : OnlyM M u u') (hm : MapF u' M f') (hr : ∃ rk, RankF rk f') (hg : Gen L' f') : TW w0 M N kd kn A B f' L' ps ws v u' := by
  have hM := h.hM
  have hne : ∀ x, N x → x.block ≠ M := fun x hx e => by
    obtain ⟨cs, T, h1⟩ := (h.node x hx).pl
    obtain ⟨es, cl, h2, _⟩ := h.map
    rw [e, h2] at h1
    cases h1
  exact ⟨hm, hr, hg, fun x hx => (h.node x hx).stand (ho.2.2 _ (hne x hx)), ⟨by rw [ho.2.1]; exact h.oth.1, fun b hb hbM => (ho.2.2 b hbM).trans (h.oth.2 b hb hbM)⟩, h.bel.trans ho.1, h.row.far fun g hg _ => ho.2.2 g (by have := (h.row.lt g hg).1; omega), h.sl, h.hM, h.nb⟩
theorem BxT.only {U X X' : World} {M g16 g17 : Nat} {s t : Sl3} (h : BxT U g16 g17 s t X) (ho : OnlyM M X X') (hM : M < U.heap.size) : X'.heap[g16]? = some (.cells #[sv s, .slice none 0 0] 84 (0, 0)) ∧ X'.heap[g17]? = some (.cells #[sv t, .slice none 0 0] 84 (0, 0)) :=
  ⟨(ho.2.2 g16 (by have := h.l16; omega)).trans h.h16, (ho.2.2 g17 (by have := h.l17; omega)).trans h.h17⟩
theorem BxT.later {U X X' : World} {g16 g17 : Nat} {s t : Sl3} (h : BxT U g16 g17 s t X) (hb : Below X.heap.size X X') : BxT U g16 g17 s t X' :=
  ⟨h.bel.call hb, (hb.block g16 (Array.getElem?_eq_some_iff.1 h.h16).1).trans h.h16, (hb.block g17 (Array.getElem?_eq_some_iff.1 h.h17).1).trans h.h17, h.ne, h.l16, h.l17⟩
/-- What stands behind the test of a pair of nodes: it is done, or its branches must wait. -/
structure Aft (w0 : World) (M : Nat) (N : Addr → Prop) (kd : Addr → List Addr) (kn : Addr → Int × Int) (A B : List Addr) (L : List (Addr × Addr)) (ps : List (Sl3 × Sl3)) (ws : List (List Addr × List Addr)) (v : Value) (x y : Addr) (g16 g17 : Nat) (s s' : Sl3) (t : Bool) (X : World) : Prop where
  h16 : X.heap[g16]? = some (.cells #[sv s, .slice none 0 0] 84 (0, 0))
  h17 : X.heap[g17]? = some (.cells #[sv s', .slice none 0 0] 84 (0, 0))
  done : t = true → ∃ f, TW w0 M N kd kn A B f L ps ws v X ∧ Dn kd kn L x y
  todo : t = false → ∃ f, TW w0 M N kd kn A B f ((x, y) :: L) ps ws v X
theorem Aft.merge {w0 : World} {M : Nat} {N : Addr → Prop} {kd : Addr → List Addr} {kn : Addr → Int × Int} {A B : List Addr} {f : Addr → Option Addr} {L : List (Addr × Addr)} {ps : List (Sl3 × Sl3)} {ws : List (List Addr × List Addr)} {v : Value} {x y : Addr} {U X X' : World} {g16 g17 : Nat} {s s' : Sl3} {t : Bool} {f' : Addr → Option Addr}
    (h : TW w0 M N kd kn A B f L ps ws v X) (hb : BxT U g16 g17 s s' X) (hU : M < U.heap.size) (hm : MapF X' M f') (hr : ∃ rk, RankF rk f') (ho : OnlyM M X X') (h0 : t = false → ∀ Q, Eqv Q → HoldsF f Q → HoldsF f' Q ∧ Q x y) (h1 : t = true → ∀ Q, Eqv Q → HoldsF f Q → Q x y → HoldsF f' Q) :
    Aft w0 M N kd kn A B L ps ws v x y g16 g17 s s' (!t) X' := by
  obtain ⟨k16, k17⟩ := hb.only ho hU
  refine ⟨k16, k17, fun ht => ?_, fun ht => ?_⟩
  · have ht' : t = false := by cases t <;> simp_all
    exact ⟨f', h.only ho hm hr fun Q hQ hL => (h0 ht' Q hQ (h.gen Q hQ hL)).1, .inr fun Q hQ hL => (h0 ht' Q hQ (h.gen Q hQ hL)).2⟩
  · have ht' : t = true := by cases t <;> simp_all
    exact ⟨f', h.only ho hm hr fun Q hQ hL => h1 ht' Q hQ (h.gen Q hQ fun z hz => hL z (by simp [hz])) (hL (x, y) (by simp))⟩
theorem bxt1 {U u : World} (h : Bel U u) (s t : Sl3) : BxT U u.heap.size (u.heap.size + 1) s t ((u.alloc (.cells #[sv s, .slice none 0 0] 84)).alloc (.cells #[sv t, .slice none 0 0] 84)) := by
  have h1 := heap_alloc_new (u.alloc (.cells #[sv s, .slice none 0 0] 84)) (.cells #[sv t, .slice none 0 0] 84)
  rw [World.size_alloc] at h1
  exact ⟨(h.alloc _).alloc _, (Below.heap_alloc _ _ _ (by simp)).trans (heap_alloc_new u _), h1, by omega, Below.size h, by have := Below.size h; omega⟩
theorem bxt1' {U u : World} (h : Bel U u) (s t : Sl3) : BxT U (u.heap.size + 1) u.heap.size s t ((u.alloc (.cells #[sv t, .slice none 0 0] 84)).alloc (.cells #[sv s, .slice none 0 0] 84)) :=
  have h1 := bxt1 h t s
  ⟨h1.bel, h1.h17, h1.h16, h1.ne.symm, h1.l17, h1.l16⟩
theorem set2_same {u : World} {g : Nat} (h : BxN u g) (s : Sl3) : ((u.setCell ⟨g, 0, none⟩ (sv s)).setCell ⟨g, 1, none⟩ (.slice none 0 0)).heap[g]? = some (.cells #[sv s, .slice none 0 0] 84 (0, 0)) := heap_setCell_same _ g 1 _ _ _ (heap_setCell_same _ g 0 _ _ _ h)
theorem set2_other {u : World} {g b : Nat} (hne : b ≠ g) (s t : Value) : ((u.setCell ⟨g, 0, none⟩ s).setCell ⟨g, 1, none⟩ t).heap[b]? = u.heap[b]? := (Below.heap_setCell _ _ _ _ (by simpa using hne)).trans (Below.heap_setCell _ _ _ _ (by simpa using hne))
theorem set2_size (u : World) (g : Nat) (s t : Value) : ((u.setCell ⟨g, 0, none⟩ s).setCell ⟨g, 1, none⟩ t).heap.size = u.heap.size := by simp [World.setCell]
theorem bxt2 {U u : World} (h : Bel U u) {g : Nat} (hb : BxN u g) (hg : U.heap.size ≤ g) (s t : Sl3) : BxT U g u.heap.size s t (((u.setCell ⟨g, 0, none⟩ (sv s)).setCell ⟨g, 1, none⟩ (.slice none 0 0)).alloc (.cells #[sv t, .slice none 0 0] 84)) := by
  have h1 := heap_alloc_new ((u.setCell ⟨g, 0, none⟩ (sv s)).setCell ⟨g, 1, none⟩ (.slice none 0 0)) (.cells #[sv t, .slice none 0 0] 84)
  rw [set2_size] at h1
  have hlt := hb.lt
  exact ⟨((h.set hg 0 _).set hg 1 _).alloc _, (Below.heap_alloc _ _ _ (by rw [set2_size]; exact hlt)).trans (set2_same hb s), h1, by omega, hg, Below.size h⟩
theorem bxt2' {U u : World} (h : Bel U u) {g : Nat} (hb : BxN u g) (hg : U.heap.size ≤ g) (s t : Sl3) : BxT U u.heap.size g s t (((u.setCell ⟨g, 0, none⟩ (sv t)).setCell ⟨g, 1, none⟩ (.slice none 0 0)).alloc (.cells #[sv s, .slice none 0 0] 84)) :=
  have h1 := bxt2 h hb hg t s
  ⟨h1.bel, h1.h17, h1.h16, h1.ne.symm, h1.l17, h1.l16⟩
theorem bxt3 {U u : World} (h : Bel U u) {g g' : Nat} (hb : BxN u g) (hb' : BxN u g') (hne : g ≠ g') (hg : U.heap.size ≤ g) (hg' : U.heap.size ≤ g') (s t : Sl3) : BxT U g g' s t ((((u.setCell ⟨g, 0, none⟩ (sv s)).setCell ⟨g, 1, none⟩ (.slice none 0 0)).setCell ⟨g', 0, none⟩ (sv t)).setCell ⟨g', 1, none⟩ (.slice none 0 0)) := by
  have hb2 : BxN ((u.setCell ⟨g, 0, none⟩ (sv s)).setCell ⟨g, 1, none⟩ (.slice none 0 0)) g' := (set2_other (fun e => hne e.symm) _ _).trans hb'
  exact ⟨(((h.set hg 0 _).set hg 1 _).set hg' 0 _).set hg' 1 _, (set2_other hne _ _).trans (set2_same hb s), set2_same hb2 t, hne, hg, hg'⟩
/-- A pair is laid at the end. -/
theorem TW.push {w0 : World} {M n vc : Nat} {va : Option Addr} {N : Addr → Prop} {kd : Addr → List Addr} {kn : Addr → Int × Int} {A B : List Addr} {f : Addr → Option Addr} {L : List (Addr × Addr)} {ps : List (Sl3 × Sl3)} {ws : List (List Addr × List Addr)} {u w5 : World} {o : Obj} {v' : Value} {p : Sl3 × Sl3} {q : List Addr × List Addr}
    (h : TW w0 M N kd kn A B f L ps ws (.slice va n vc) u) (hg : (u.alloc o).drew.grownBy w5 (Value.slice va n vc).ownBlock) (hr : RowW w5 w0.heap.size v' (ps ++ [p])) (h1 : SlN N p.1.1 p.1.2.1 p.1.2.2 q.1) (h2 : SlN N p.2.1 p.2.2.1 p.2.2.2 q.2) : TW w0 M N kd kn A B f L (ps ++ [p]) (ws ++ [q]) v' w5 := by
  have hz : w0.heap.size ≤ u.heap.size := h.oth.1
  have hM := h.hM
  have hst : ∀ b, b < u.heap.size → some b ≠ (Value.slice va n vc).ownBlock → w5.heap[b]? = u.heap[b]? := fun b hb hne => (hg.block b (show b < (u.alloc o).heap.size by rw [World.size_alloc]; omega) hne).trans (Below.heap_alloc u o b hb)
  have hlo : ∀ b, b < w0.heap.size → some b ≠ (Value.slice va n vc).ownBlock := fun b hb e => by have := (h.row.lt b e.symm).1; omega
  have hpl : ∀ a, PlA u a → PlA w5 a := fun a ha => by
    obtain ⟨cs, T, ha⟩ := ha
    have hlt := (Array.getElem?_eq_some_iff.1 ha).1
    refine ⟨cs, T, (hst _ hlt fun e => ?_).trans ha⟩
    rcases h.row.2 with ⟨e1, _⟩ | ⟨g, cap, cur, e1, _, h3, _⟩
    · rw [e1] at e; cases e
    · rw [e1] at e
      cases e
      rw [ha] at h3
      cases h3
  have hb5 : Below w0.heap.size u w5 := Below.trans (((Below.refl w0.heap.size u).alloc hz o).drew) ((Below.refl w0.heap.size _).grown hg (show w0.heap.size ≤ (u.alloc o).heap.size by rw [World.size_alloc]; omega) fun k e => (h.row.lt k e).1)
  refine ⟨?_, h.rank, h.gen, fun x hx => (h.node x hx).stand (hst _ (by have := h.nb x hx; omega) (hlo _ (h.nb x hx))), ⟨Nat.le_trans h.oth.1 hb5.size, fun b hb hbM => (hst b (by omega) (hlo b hb)).trans (h.oth.2 b hb hbM)⟩, h.bel.trans (hb5.mono (by omega)), hr, ⟨by rw [List.length_append, List.length_append, h.sl.1]; rfl, fun i p' q' hp hq => ?_⟩, h.hM, h.nb⟩
  · obtain ⟨es, cl, e1, e2, rfl⟩ := h.map
    refine ⟨es, cl, (hst M (by omega) (hlo M hM)).trans e1, fun e he => ?_, rfl⟩
    obtain ⟨x, y, k1, k2, k3, k4⟩ := e2 e he
    exact ⟨x, y, k1, k2, hpl x k3, hpl y k4⟩
  · by_cases hi : i < ps.length
    · rw [List.getElem?_append_left hi] at hp
      rw [List.getElem?_append_left (by rw [← h.sl.1]; exact hi)] at hq
      exact h.sl.2 i p' q' hp hq
    · have hi2 : i = ps.length := by
        have := (List.getElem?_eq_some_iff.1 hp).1
        rw [List.length_append] at this
        simp at this
        omega
      subst hi2
      rw [List.getElem?_append_right (Nat.le_refl _), Nat.sub_self] at hp
      rw [h.sl.1, List.getElem?_append_right (Nat.le_refl _), Nat.sub_self] at hq
      simp at hp hq
      subst hp hq
      exact ⟨h1, h2⟩
/-- The last pair taken off. -/
theorem TW.pop {w0 : World} {M k cap : Nat} {N : Addr → Prop} {kd : Addr → List Addr} {kn : Addr → Int × Int} {A B : List Addr} {f : Addr → Option Addr} {L : List (Addr × Addr)} {ps : List (Sl3 × Sl3)} {ws : List (List Addr × List Addr)} {v : Value} {a : Option Addr} {u : World}
    (h : TW w0 M N kd kn A B f L ps ws v u) (hr : RowW u w0.heap.size (.slice a k cap) (ps.take k)) : TW w0 M N kd kn A B f L (ps.take k) (ws.take k) (.slice a k cap) u := by
  refine ⟨h.map, h.rank, h.gen, h.node, h.oth, h.bel, hr, ⟨by rw [List.length_take, List.length_take, h.sl.1], fun i p q hp hq => ?_⟩, h.hM, h.nb⟩
  rw [List.getElem?_take] at hp hq
  split at hp
  · rename_i hi
    rw [if_pos hi] at hq
    exact h.sl.2 i p q hp hq
  · cases hp

set_option maxRecDepth 100000 in
set_option maxHeartbeats 40000000 in
theorem treesSame_one (w : World) (M : Nat) (N : Addr → Prop) (kd : Addr → List Addr) (kn : Addr → Int × Int) (sz : Addr → Nat) (hsz : ∀ x, N x → 1 + sumS sz (kd x) ≤ sz x)
    (f : Addr → Option Addr) (L : List (Addr × Addr)) (hM : MapF w M f) (hr : ∃ rk, RankF rk f) (hg : Gen L f) (hL : ∀ z ∈ L, kn z.1 = kn z.2 ∧ DnL kd kn L (kd z.1) (kd z.2)) (hn : ∀ x, N x → NodeW w N kd kn x)
    (a b : Option Addr) (n n' c c' : Nat) (A B : List Addr) (ha : SlN N a n c A) (hb : SlN N b n' c' B) (hbd : sumS sz A ≤ 1073741824) :
    Calls Try.prog 29 #[.map (some M), .slice a n c, .slice b n' c', .func (.func 30) #[] #[]] w fun e w' => ∃ t : Bool, e = .returned (.bool t) ∧ (t = true ↔ LAg kd kn A B) ∧ Below M w w' ∧ Oth M w w' := by
  have hMlt : M < w.heap.size := by obtain ⟨es, cl, h1, _⟩ := hM; exact (Array.getElem?_eq_some_iff.1 h1).1
  go_enter Try.func29, Try.ntmps29
  have hT0 : TW w M N kd kn A B f L [((a, n, c), (b, n', c'))] [(A, B)] (.slice (some ⟨w.heap.size, 0, none⟩) 1 1) (w.alloc (.cells #[.slice a n c, .slice b n' c'] 84)) := by
    refine ⟨hM.alloc _, hr, hg, fun x hx => (hn x hx).stand (Below.heap_alloc _ _ _ ?_), (Oth.refl _ _).alloc _, (Below.refl _ _).alloc (by omega) _, RowW.first w (a, n, c) (b, n', c') _ (Nat.le_refl _), ⟨rfl, fun i p q hp hq => ?_⟩, hMlt, fun x hx => by obtain ⟨cs, T, h1⟩ := (hn x hx).pl; exact (Array.getElem?_eq_some_iff.1 h1).1⟩
    · obtain ⟨cs, T, h1⟩ := (hn x hx).pl
      exact (Array.getElem?_eq_some_iff.1 h1).1
    · cases i with
      | zero => simp at hp hq; subst hp hq; exact ⟨ha, hb⟩
      | succ i => simp at hp
  have hO0 : Owed kd kn L A B [(A, B)] := ⟨fun z hz => ⟨(hL z hz).1, .inl (hL z hz).2⟩, .inr (by simp), fun hA p hp => by simp at hp; subst hp; exact hA⟩
  have HT0 := Lib.hid hT0
  have HO0 := Lib.hid hO0
  have HSZ := Lib.hid hsz
  obtain ⟨mu, hmu⟩ := mu_ex (σ := Value × World) fun s m => ∃ (f : Addr → Option Addr) (L : List (Addr × Addr)) (ps : List (Sl3 × Sl3)) (ws : List (List Addr × List Addr)) (va : Option Addr) (vc : Nat), s.1 = .slice va ps.length vc ∧ TW w M N kd kn A B f L ps ws s.1 s.2 ∧ Owed kd kn L A B ws ∧ m = wei sz ws ∧ m ≤ 4294967296
  have HMU := Lib.hid hmu
  clear hM hr hg hL hn ha hb hT0 hO0 hsz hmu
  go_wp2_with fail
  go_loopw [9] (fun v wr => ∃ m, ∃ (f : Addr → Option Addr) (L : List (Addr × Addr)) (ps : List (Sl3 × Sl3)) (ws : List (List Addr × List Addr)) (va : Option Addr) (vc : Nat), v = .slice va ps.length vc ∧ TW w M N kd kn A B f L ps ws v wr ∧ Owed kd kn L A B ws ∧ m = wei sz ws ∧ m ≤ 4294967296) (fun v wr => mu (v, wr))
  case atStart => exact ⟨_, f, L, _, _, _, _, rfl, HT0.out, HO0.out, rfl, by simp only [wei]; omega⟩
  case round =>
    obtain ⟨⟨f1, L1, ps, ws, va, vc, hv, hT, hO, hm, hmb⟩, hmin⟩ := HMU.out (u9, wr) hrel
    rw [hm] at hmb
    simp only at hv
    have HT := Lib.hid (show TW w M N kd kn A B f1 L1 ps ws u9 wr from hT)
    have HO := Lib.hid hO
    have HMM := Lib.hid hm
    clear hrel hT hO hm hmin
    subst hv
    by_cases hz : ps.length = 0
    · rw [hz] at HT HMM ⊢
      have hw0 : ws = [] := List.eq_nil_of_length_eq_zero (by rw [← HT.out.sl.1]; exact hz)
      have HFIN : Hid (LAg kd kn A B) := by
        have h9 : Owed kd kn L1 A B [] := by rw [← hw0]; exact HO.out
        exact h9.done
      go_wp2_with fail
      go_ret
      exact ⟨true, rfl, ⟨fun _ => HFIN.out, fun _ => rfl⟩, HT.out.bel, HT.out.oth⟩
    obtain ⟨k, hk⟩ : ∃ k, ps.length = k + 1 := ⟨ps.length - 1, by omega⟩
    obtain ⟨p, hp⟩ : ∃ p, ps[k]? = some p := ⟨_, List.getElem?_eq_getElem (by omega)⟩
    obtain ⟨q, hq⟩ : ∃ q, ws[k]? = some q := ⟨_, List.getElem?_eq_getElem (by have := HT.out.sl.1; omega)⟩
    obtain ⟨hsl, hsr⟩ := HT.out.sl.2 k p q hp hq
    obtain ⟨⟨la, ln, lc⟩, ⟨ra, rn, rc⟩⟩ := p
    obtain ⟨ql, qr⟩ := q
    simp only at hsl hsr
    have hrow := HT.out.row
    rw [hk] at hrow HT HMM ⊢
    obtain ⟨g, rfl, hgb, hgl, hkc, hcm, d0, d1, hrow'⟩ := hrow.last hk _ hp
    simp only [sv] at d0 d1
    have hHT := HT.out
    have HROW := Lib.hid hrow'
    have HSL := Lib.hid hsl
    have HSR := Lib.hid hsr
    have hws : ws = ws.take k ++ [(ql, qr)] := by
      have h1 : ws.length = k + 1 := by rw [← HT.out.sl.1, hk]
      rw [← List.take_append_drop k ws]
      congr 1
      · simp
      · rw [List.drop_eq_getElem_cons (by omega), List.drop_eq_nil_of_le (by omega)]
        have h2 := List.getElem?_eq_getElem (l := ws) (i := k) (by omega)
        rw [hq] at h2
        simp at h2
        simp [h2]
    clear hrow hrow' hsl hsr hHT hz
    have hi0 : (0 : Int) ≤ (k : Int) := by omega
    unfold maxLen at hcm
    have hi1 : (k : Int) ≤ 9223372036854775807 := by omega
    have hi2 : (k : Int) < ((k + 1 : Nat) : Int) := by omega
    have hi3 : (k : Int) ≤ (vc : Int) := by omega
    have HTP : Hid (TW w M N kd kn A B f1 L1 (ps.take k) (ws.take k) (.slice (some ⟨g, 0, none⟩) k vc) wr) := HT.out.pop HROW.out
    have HOP : Hid (Owed kd kn L1 A B ((ql, qr) :: ws.take k)) := HO.out.perm fun p => by
      have h1 : p ∈ ws ↔ p ∈ ws.take k ++ [(ql, qr)] := by rw [← hws]
      rw [h1]; simp [or_comm]
    have HWE : Hid (wei sz (ws.take k) + 2 * sumS sz ql + 1 = wei sz ws) := by
      have h1 : wei sz (ws.take k) + 2 * sumS sz ql + 1 = wei sz ws := by
        conv => rhs; rw [hws]
        rw [wei_app]
        simp [wei]
        omega
      exact h1
    have HWS := Lib.hid hws
    clear hws
    by_cases hlr : ln = rn
    case neg =>
      have hne : ((ln : Int) != (rn : Int)) = true := by simp; omega
      have HFIN : Hid (¬ LAg kd kn A B) := fun hA => by
        have h1 := (HOP.out.same hA (ql, qr) (by simp)).1
        rw [show (ql, qr).1.length = ln from HSL.out.len, show (ql, qr).2.length = rn from HSR.out.len] at h1
        exact hlr h1
      go_wp2_with fail
      go_quiet (fail)
      go_wp2_with fail
      go_ret
      exact ⟨false, rfl, ⟨(fun h => by cases h), fun h => absurd h HFIN.out⟩, (HTP.out.drewN _).bel, (HTP.out.drewN _).oth⟩
    subst hlr
    have hlm : ln ≤ 9223372036854775807 := by have := HSL.out.le; have := HSL.out.max; unfold maxLen at this; omega
    have HK : Hid ((ps.take k).length = k) := by
      have h1 : (ps.take k).length = k := by rw [List.length_take, hk]; omega
      exact h1
    clear HT HO HROW hp hq hk
    go_wp2_with fail
    go_quiet (fail)
    go_wp2_with fail
    clear d0 d1
    have HTD := Lib.hid (HTP.out.drewN nq)
    go_loopw [9, 49] (fun s9 s49 wr2 => ∃ (i : Nat) (f2 : Addr → Option Addr) (L2 : List (Addr × Addr)) (ps2 : List (Sl3 × Sl3)) (ws2 : List (List Addr × List Addr)) (va2 : Option Addr) (vc2 : Nat), s49 = .int .i64 (i : Int) ∧ i ≤ ln ∧ s9 = .slice va2 ps2.length vc2 ∧ Hid (TW w M N kd kn A B f2 L2 ps2 ws2 s9 wr2) ∧ Hid (Owed kd kn L2 A B ((ql, qr) :: ws2)) ∧ Hid (∀ j, j < i → ∀ x y, ql[j]? = some x → qr[j]? = some y → Dn kd kn L2 x y) ∧ Hid (wei sz ws2 + 2 * sumS sz (ql.drop i) + 1 ≤ wei sz ws)) (fun _ s49 _ => ln - (intOf s49).toNat)
    case atStart => exact ⟨0, f1, L1, ps.take k, ws.take k, some ⟨g, 0, none⟩, vc, rfl, by omega, by rw [HK.out], HTD.out, HOP.out, (fun j hj => absurd hj (Nat.not_lt_zero _)), (by rw [List.drop_zero, HWE.out]; exact Nat.le_refl _)⟩
    case round =>
      obtain ⟨i, f2, L2, ps2, ws2, va2, vc2, rfl, hi, hv2, HT2, HO2, HD2, HW2⟩ := hrel
      subst hv2
      clear HTD HTP HOP
      by_cases hil : i < ln
      · obtain ⟨bx, ox, rfl, hxl, hxN⟩ := HSL.out.at hil
        obtain ⟨by', oy, rfl, hyl, hyN⟩ := HSR.out.at hil
        have HXL := Lib.hid hxl
        have HYL := Lib.hid hyl
        have HXN := Lib.hid hxN
        have HYN := Lib.hid hyN
        have hj0 : (0 : Int) ≤ (i : Int) := by omega
        have hj1 : (i : Int) < (ln : Int) := by omega
        clear hxl hyl hxN hyN
        go_wp2_with fail
        go_quiet (fail)
        have HTQ := Lib.hid (HT2.out.drewN nq)
        obtain ⟨wq, hwq⟩ : ∃ wq, wr.drewN nq = wq := ⟨_, rfl⟩
        rw [hwq] at HTQ ⊢
        clear HT2 hwq
        go_wp2_with fail
        refine (same_one wq N kd kn _ _ (HTQ.out.node _ HXN.out) (HTQ.out.node _ HYN.out)).mono ?_
        rintro e wq2 ⟨rfl, m2, rfl⟩
        have HTQ2 := Lib.hid (HTQ.out.drewN m2)
        obtain ⟨ws2', hws2⟩ : ∃ u, wq.drewN m2 = u := ⟨_, rfl⟩
        rw [hws2] at HTQ2 ⊢
        clear HTQ hws2
        by_cases hkn : kn ⟨bx, ox + i * 3, none⟩ = kn ⟨by', oy + i * 3, none⟩
        case neg =>
          have HFIN : Hid (¬ LAg kd kn A B) := fun hA => hkn ((HO2.out.same hA (ql, qr) (by simp)).kids HXL.out HYL.out).1
          rw [decide_eq_false hkn]
          go_wp2_with fail
          go_ret
          exact ⟨false, rfl, ⟨(fun h => by cases h), fun h => absurd h HFIN.out⟩, HTQ2.out.bel, HTQ2.out.oth⟩
        rw [decide_eq_true hkn]
        have HKN := Lib.hid hkn
        clear hkn
        obtain ⟨xa, xn, xc, x2, HXS⟩ := (HTQ2.out.node _ HXN.out).c2
        obtain ⟨ya, yn, yc, y2, HYS⟩ := (HTQ2.out.node _ HYN.out).c2
        have x0 := (HTQ2.out.node _ HXN.out).c0
        have x1 := (HTQ2.out.node _ HXN.out).c1
        have y0 := (HTQ2.out.node _ HYN.out).c0
        have y1 := (HTQ2.out.node _ HYN.out).c1
        simp only at x0 x1 x2 y0 y1 y2
        obtain ⟨⟨xk, xv⟩, hxk⟩ : ∃ z, kn ⟨bx, ox + i * 3, none⟩ = z := ⟨_, rfl⟩
        obtain ⟨⟨yk, yv⟩, hyk⟩ : ∃ z, kn ⟨by', oy + i * 3, none⟩ = z := ⟨_, rfl⟩
        rw [hxk] at x0 x1
        rw [hyk] at y0 y1
        simp only at x0 x1 y0 y1
        have hbx : bx < ws2'.heap.size := World.block_lt_of_cell? ws2' _ x0
        have hby : by' < ws2'.heap.size := World.block_lt_of_cell? ws2' _ y0
        have HS : Hid (∀ v, Bel ws2' v → v.cell? ⟨bx, ox + i * 3, none⟩ = some (.int .i64 xk) ∧ v.cell? ⟨bx, ox + i * 3 + 1, none⟩ = some (.int .i64 xv) ∧ v.cell? ⟨bx, ox + i * 3 + 2, none⟩ = some (.slice xa xn xc) ∧ v.cell? ⟨by', oy + i * 3, none⟩ = some (.int .i64 yk) ∧ v.cell? ⟨by', oy + i * 3 + 1, none⟩ = some (.int .i64 yv) ∧ v.cell? ⟨by', oy + i * 3 + 2, none⟩ = some (.slice ya yn yc)) := fun v hv =>
          ⟨(Below.cell (p := ⟨bx, ox + i * 3, none⟩) hv hbx).trans x0, (Below.cell (p := ⟨bx, ox + i * 3 + 1, none⟩) hv hbx).trans x1, (Below.cell (p := ⟨bx, ox + i * 3 + 2, none⟩) hv hbx).trans x2, (Below.cell (p := ⟨by', oy + i * 3, none⟩) hv hby).trans y0, (Below.cell (p := ⟨by', oy + i * 3 + 1, none⟩) hv hby).trans y1, (Below.cell (p := ⟨by', oy + i * 3 + 2, none⟩) hv hby).trans y2⟩
        have HXSH := Lib.hid HXS
        have HYSH := Lib.hid HYS
        clear hxk hyk HXS HYS
        have HRB : Hid (∀ gg, (Value.slice va2 ps2.length vc2).ownBlock = some gg → gg < ws2'.heap.size) := fun gg h9 => (HTQ2.out.row.lt gg h9).2
        have hmx : ∀ w, (method 255 38 (.agg #[.int .i64 xk, .int .i64 xv, .slice xa xn xc]) "loop.example/constanttime/impl.branches").run Try.prog w = .ok (106, .agg #[.int .i64 xk, .int .i64 xv, .slice xa xn xc]) w := fun _ => by kernel_rfl
        have hmy : ∀ w, (method 255 38 (.agg #[.int .i64 yk, .int .i64 yv, .slice ya yn yc]) "loop.example/constanttime/impl.branches").run Try.prog w = .ok (106, .agg #[.int .i64 yk, .int .i64 yv, .slice ya yn yc]) w := fun _ => by kernel_rfl
        go_upto_region 14 with fail
        go_cut [16, 17, 49] from 49 to 100 (fun s16 s17 s49 wx => ∃ g16 g17 : Nat, s16 = .pointer (some ⟨g16, 0, none⟩) ∧ s17 = .pointer (some ⟨g17, 0, none⟩) ∧ s49 = .int .i64 (i : Int) ∧ Hid (BxT ws2' g16 g17 (xa, xn, xc) (ya, yn, yc) wx))
        case first =>
          go_region_held3 (fun v => v.cell? ⟨bx, ox + i * 3, none⟩ = some (.int .i64 xk) ∧ v.cell? ⟨bx, ox + i * 3 + 1, none⟩ = some (.int .i64 xv) ∧ v.cell? ⟨bx, ox + i * 3 + 2, none⟩ = some (.slice xa xn xc) ∧ v.cell? ⟨by', oy + i * 3, none⟩ = some (.int .i64 yk) ∧ v.cell? ⟨by', oy + i * 3 + 1, none⟩ = some (.int .i64 yv) ∧ v.cell? ⟨by', oy + i * 3 + 2, none⟩ = some (.slice ya yn yc))
            (first | (with_reducible assumption) | (with_reducible exact HS.out _ (by (repeat (first | (with_reducible assumption) | (with_reducible exact Bel.refl _) | (with_reducible refine Bel.drew ?_) | (with_reducible refine Bel.alloc ?_ _) | (with_reducible refine Bel.set ?_ (by omega) _ _))))))
            (first
            | (go_at_call 106; have _t := x0; (with_reducible refine (branches_one _ xk xv xa xn xc).mono ?_); rintro e u1 ⟨rfl, hb1⟩; clear _t
               have hU1 : Bel ws2' u1 := Bel.call (by (repeat (first | (with_reducible assumption) | (with_reducible exact Bel.refl _) | (with_reducible refine Bel.drew ?_) | (with_reducible refine Bel.alloc ?_ _) | (with_reducible refine Bel.set ?_ (by omega) _ _)))) hb1
               have hS1 := HS.out u1 hU1
               have hz1 : ws2'.heap.size ≤ u1.heap.size := Below.size hU1
               try have a0 : BxN u1 ws2'.heap.size := (hb1.block ws2'.heap.size (by simp)).trans (bx_new ws2')
               try have a0 : BxN u1 ws2'.heap.size := (hb1.block ws2'.heap.size (by simp; omega)).trans (bx_old (bx_new ws2'))
               try have a1 : BxN u1 (ws2'.heap.size + 1) := (hb1.block (ws2'.heap.size + 1) (by simp)).trans (bx_new2 ws2'))
            | (go_at_call 106; (with_reducible refine (branches_one _ yk yv ya yn yc).mono ?_); rintro e u2 ⟨rfl, hb2⟩
               have hU2 : Bel ws2' u2 := Bel.call (by (repeat (first | (with_reducible assumption) | (with_reducible exact Bel.refl _) | (with_reducible refine Bel.drew ?_) | (with_reducible refine Bel.alloc ?_ _) | (with_reducible refine Bel.set ?_ (by omega) _ _)))) hb2
               have hS2 := HS.out u2 hU2
               have hz2 : u1.heap.size ≤ u2.heap.size := by first | exact hb2.size | (have h := hb2.size; simp only [World.size_alloc] at h; omega)
               try have e0 : BxN u2 ws2'.heap.size := (hb2.block ws2'.heap.size (by have := BxN.lt a0; first | omega | (simp; omega))).trans (by first | exact a0 | exact bx_old a0 | exact bx_old (bx_old a0))
               try have e1 : BxN u2 (ws2'.heap.size + 1) := (hb2.block (ws2'.heap.size + 1) (by have := BxN.lt a1; first | omega | (simp; omega))).trans a1
               try have e2 : BxN u2 u1.heap.size := (hb2.block u1.heap.size (by simp)).trans (bx_new u1)
               try have e2 : BxN u2 u1.heap.size := (hb2.block u1.heap.size (by simp; omega)).trans (bx_old (bx_new u1))
               try have e3 : BxN u2 (u1.heap.size + 1) := (hb2.block (u1.heap.size + 1) (by simp)).trans (bx_new2 u1)
               have n0 := ws2'.heap.size
               try have l0 := BxN.lt a0
               try have l1 := BxN.lt a1
               try have l2 := BxN.lt e2
               try have l4 := BxN.lt e0
               try have l5 := BxN.lt e1
               try have l3 := BxN.lt e3
               try have e0c0 : u2.cell? ⟨ws2'.heap.size, 0, none⟩ = some (.slice none 0 0) := cell_at e0 0
               try have e0f0 : u2.frozen? ⟨ws2'.heap.size, 0, none⟩ = false := frz_at e0 0
               try have e0c1 : u2.cell? ⟨ws2'.heap.size, 1, none⟩ = some (.slice none 0 0) := cell_at e0 1
               try have e0f1 : u2.frozen? ⟨ws2'.heap.size, 1, none⟩ = false := frz_at e0 1
               try have e1c0 : u2.cell? ⟨ws2'.heap.size + 1, 0, none⟩ = some (.slice none 0 0) := cell_at e1 0
               try have e1f0 : u2.frozen? ⟨ws2'.heap.size + 1, 0, none⟩ = false := frz_at e1 0
               try have e1c1 : u2.cell? ⟨ws2'.heap.size + 1, 1, none⟩ = some (.slice none 0 0) := cell_at e1 1
               try have e1f1 : u2.frozen? ⟨ws2'.heap.size + 1, 1, none⟩ = false := frz_at e1 1
               try have e2c0 : u2.cell? ⟨u1.heap.size, 0, none⟩ = some (.slice none 0 0) := cell_at e2 0
               try have e2f0 : u2.frozen? ⟨u1.heap.size, 0, none⟩ = false := frz_at e2 0
               try have e2c1 : u2.cell? ⟨u1.heap.size, 1, none⟩ = some (.slice none 0 0) := cell_at e2 1
               try have e2f1 : u2.frozen? ⟨u1.heap.size, 1, none⟩ = false := frz_at e2 1
               try have e3c0 : u2.cell? ⟨u1.heap.size + 1, 0, none⟩ = some (.slice none 0 0) := cell_at e3 0
               try have e3f0 : u2.frozen? ⟨u1.heap.size + 1, 0, none⟩ = false := frz_at e3 0
               try have e3c1 : u2.cell? ⟨u1.heap.size + 1, 1, none⟩ = some (.slice none 0 0) := cell_at e3 1
               try have e3f1 : u2.frozen? ⟨u1.heap.size + 1, 1, none⟩ = false := frz_at e3 1
               try have p1 := st2 (V := u2) (g := ws2'.heap.size) (g' := (ws2'.heap.size + 1)) e0 e1 (by omega) (.slice xa xn xc) (.slice none 0 0)
               try have p1a := p1.1
               try have p1b := p1.2.1
               try have p1c := p1.2.2.1
               try have p1d := p1.2.2.2.1
               try have p1e := p1.2.2.2.2.1
               try have p1f := p1.2.2.2.2.2.1
               try have p1g := p1.2.2.2.2.2.2.1
               try have p1h := p1.2.2.2.2.2.2.2
               try have p2 := st2 (V := u2) (g := ws2'.heap.size) (g' := u1.heap.size) e0 e2 (by omega) (.slice xa xn xc) (.slice none 0 0)
               try have p2a := p2.1
               try have p2b := p2.2.1
               try have p2c := p2.2.2.1
               try have p2d := p2.2.2.2.1
               try have p2e := p2.2.2.2.2.1
               try have p2f := p2.2.2.2.2.2.1
               try have p2g := p2.2.2.2.2.2.2.1
               try have p2h := p2.2.2.2.2.2.2.2
               try have p3 := st2 (V := u2) (g := ws2'.heap.size) (g' := (u1.heap.size + 1)) e0 e3 (by omega) (.slice xa xn xc) (.slice none 0 0)
               try have p3a := p3.1
               try have p3b := p3.2.1
               try have p3c := p3.2.2.1
               try have p3d := p3.2.2.2.1
               try have p3e := p3.2.2.2.2.1
               try have p3f := p3.2.2.2.2.2.1
               try have p3g := p3.2.2.2.2.2.2.1
               try have p3h := p3.2.2.2.2.2.2.2
               try have p4 := st2 (V := u2) (g := (ws2'.heap.size + 1)) (g' := ws2'.heap.size) e1 e0 (by omega) (.slice xa xn xc) (.slice none 0 0)
               try have p4a := p4.1
               try have p4b := p4.2.1
               try have p4c := p4.2.2.1
               try have p4d := p4.2.2.2.1
               try have p4e := p4.2.2.2.2.1
               try have p4f := p4.2.2.2.2.2.1
               try have p4g := p4.2.2.2.2.2.2.1
               try have p4h := p4.2.2.2.2.2.2.2
               try have p5 := st2 (V := u2) (g := (ws2'.heap.size + 1)) (g' := u1.heap.size) e1 e2 (by omega) (.slice xa xn xc) (.slice none 0 0)
               try have p5a := p5.1
               try have p5b := p5.2.1
               try have p5c := p5.2.2.1
               try have p5d := p5.2.2.2.1
               try have p5e := p5.2.2.2.2.1
               try have p5f := p5.2.2.2.2.2.1
               try have p5g := p5.2.2.2.2.2.2.1
               try have p5h := p5.2.2.2.2.2.2.2
               try have p6 := st2 (V := u2) (g := (ws2'.heap.size + 1)) (g' := (u1.heap.size + 1)) e1 e3 (by omega) (.slice xa xn xc) (.slice none 0 0)
               try have p6a := p6.1
               try have p6b := p6.2.1
               try have p6c := p6.2.2.1
               try have p6d := p6.2.2.2.1
               try have p6e := p6.2.2.2.2.1
               try have p6f := p6.2.2.2.2.2.1
               try have p6g := p6.2.2.2.2.2.2.1
               try have p6h := p6.2.2.2.2.2.2.2
               try have p7 := st2 (V := u2) (g := u1.heap.size) (g' := ws2'.heap.size) e2 e0 (by omega) (.slice xa xn xc) (.slice none 0 0)
               try have p7a := p7.1
               try have p7b := p7.2.1
               try have p7c := p7.2.2.1
               try have p7d := p7.2.2.2.1
               try have p7e := p7.2.2.2.2.1
               try have p7f := p7.2.2.2.2.2.1
               try have p7g := p7.2.2.2.2.2.2.1
               try have p7h := p7.2.2.2.2.2.2.2
               try have p8 := st2 (V := u2) (g := u1.heap.size) (g' := (ws2'.heap.size + 1)) e2 e1 (by omega) (.slice xa xn xc) (.slice none 0 0)
               try have p8a := p8.1
               try have p8b := p8.2.1
               try have p8c := p8.2.2.1
               try have p8d := p8.2.2.2.1
               try have p8e := p8.2.2.2.2.1
               try have p8f := p8.2.2.2.2.2.1
               try have p8g := p8.2.2.2.2.2.2.1
               try have p8h := p8.2.2.2.2.2.2.2
               try have p9 := st2 (V := u2) (g := u1.heap.size) (g' := (u1.heap.size + 1)) e2 e3 (by omega) (.slice xa xn xc) (.slice none 0 0)
               try have p9a := p9.1
               try have p9b := p9.2.1
               try have p9c := p9.2.2.1
               try have p9d := p9.2.2.2.1
               try have p9e := p9.2.2.2.2.1
               try have p9f := p9.2.2.2.2.2.1
               try have p9g := p9.2.2.2.2.2.2.1
               try have p9h := p9.2.2.2.2.2.2.2
               try have p10 := st2 (V := u2) (g := (u1.heap.size + 1)) (g' := ws2'.heap.size) e3 e0 (by omega) (.slice xa xn xc) (.slice none 0 0)
               try have p10a := p10.1
               try have p10b := p10.2.1
               try have p10c := p10.2.2.1
               try have p10d := p10.2.2.2.1
               try have p10e := p10.2.2.2.2.1
               try have p10f := p10.2.2.2.2.2.1
               try have p10g := p10.2.2.2.2.2.2.1
               try have p10h := p10.2.2.2.2.2.2.2
               try have p11 := st2 (V := u2) (g := (u1.heap.size + 1)) (g' := (ws2'.heap.size + 1)) e3 e1 (by omega) (.slice xa xn xc) (.slice none 0 0)
               try have p11a := p11.1
               try have p11b := p11.2.1
               try have p11c := p11.2.2.1
               try have p11d := p11.2.2.2.1
               try have p11e := p11.2.2.2.2.1
               try have p11f := p11.2.2.2.2.2.1
               try have p11g := p11.2.2.2.2.2.2.1
               try have p11h := p11.2.2.2.2.2.2.2
               try have p12 := st2 (V := u2) (g := (u1.heap.size + 1)) (g' := u1.heap.size) e3 e2 (by omega) (.slice xa xn xc) (.slice none 0 0)
               try have p12a := p12.1
               try have p12b := p12.2.1
               try have p12c := p12.2.2.1
               try have p12d := p12.2.2.2.1
               try have p12e := p12.2.2.2.2.1
               try have p12f := p12.2.2.2.2.2.1
               try have p12g := p12.2.2.2.2.2.2.1
               try have p12h := p12.2.2.2.2.2.2.2
               try have p13 := st2 (V := (u2.alloc (.cells #[.slice none 0 0, .slice none 0 0] 84))) (g := ws2'.heap.size) (g' := u2.heap.size) (bx_old e0) (bx_new u2) (by omega) (.slice xa xn xc) (.slice none 0 0)
               try have p13a := p13.1
               try have p13b := p13.2.1
               try have p13c := p13.2.2.1
               try have p13d := p13.2.2.2.1
               try have p13e := p13.2.2.2.2.1
               try have p13f := p13.2.2.2.2.2.1
               try have p13g := p13.2.2.2.2.2.2.1
               try have p13h := p13.2.2.2.2.2.2.2
               try have p14 := st2 (V := (u2.alloc (.cells #[.slice none 0 0, .slice none 0 0] 84))) (g := u2.heap.size) (g' := ws2'.heap.size) (bx_new u2) (bx_old e0) (by omega) (.slice xa xn xc) (.slice none 0 0)
               try have p14a := p14.1
               try have p14b := p14.2.1
               try have p14c := p14.2.2.1
               try have p14d := p14.2.2.2.1
               try have p14e := p14.2.2.2.2.1
               try have p14f := p14.2.2.2.2.2.1
               try have p14g := p14.2.2.2.2.2.2.1
               try have p14h := p14.2.2.2.2.2.2.2
               try have p15 := st2 (V := (u2.alloc (.cells #[.slice none 0 0, .slice none 0 0] 84))) (g := (ws2'.heap.size + 1)) (g' := u2.heap.size) (bx_old e1) (bx_new u2) (by omega) (.slice xa xn xc) (.slice none 0 0)
               try have p15a := p15.1
               try have p15b := p15.2.1
               try have p15c := p15.2.2.1
               try have p15d := p15.2.2.2.1
               try have p15e := p15.2.2.2.2.1
               try have p15f := p15.2.2.2.2.2.1
               try have p15g := p15.2.2.2.2.2.2.1
               try have p15h := p15.2.2.2.2.2.2.2
               try have p16 := st2 (V := (u2.alloc (.cells #[.slice none 0 0, .slice none 0 0] 84))) (g := u2.heap.size) (g' := (ws2'.heap.size + 1)) (bx_new u2) (bx_old e1) (by omega) (.slice xa xn xc) (.slice none 0 0)
               try have p16a := p16.1
               try have p16b := p16.2.1
               try have p16c := p16.2.2.1
               try have p16d := p16.2.2.2.1
               try have p16e := p16.2.2.2.2.1
               try have p16f := p16.2.2.2.2.2.1
               try have p16g := p16.2.2.2.2.2.2.1
               try have p16h := p16.2.2.2.2.2.2.2
               try have p17 := st2 (V := (u2.alloc (.cells #[.slice none 0 0, .slice none 0 0] 84))) (g := u1.heap.size) (g' := u2.heap.size) (bx_old e2) (bx_new u2) (by omega) (.slice xa xn xc) (.slice none 0 0)
               try have p17a := p17.1
               try have p17b := p17.2.1
               try have p17c := p17.2.2.1
               try have p17d := p17.2.2.2.1
               try have p17e := p17.2.2.2.2.1
               try have p17f := p17.2.2.2.2.2.1
               try have p17g := p17.2.2.2.2.2.2.1
               try have p17h := p17.2.2.2.2.2.2.2
               try have p18 := st2 (V := (u2.alloc (.cells #[.slice none 0 0, .slice none 0 0] 84))) (g := u2.heap.size) (g' := u1.heap.size) (bx_new u2) (bx_old e2) (by omega) (.slice xa xn xc) (.slice none 0 0)
               try have p18a := p18.1
               try have p18b := p18.2.1
               try have p18c := p18.2.2.1
               try have p18d := p18.2.2.2.1
               try have p18e := p18.2.2.2.2.1
               try have p18f := p18.2.2.2.2.2.1
               try have p18g := p18.2.2.2.2.2.2.1
               try have p18h := p18.2.2.2.2.2.2.2
               try have p19 := st2 (V := (u2.alloc (.cells #[.slice none 0 0, .slice none 0 0] 84))) (g := (u1.heap.size + 1)) (g' := u2.heap.size) (bx_old e3) (bx_new u2) (by omega) (.slice xa xn xc) (.slice none 0 0)
               try have p19a := p19.1
               try have p19b := p19.2.1
               try have p19c := p19.2.2.1
               try have p19d := p19.2.2.2.1
               try have p19e := p19.2.2.2.2.1
               try have p19f := p19.2.2.2.2.2.1
               try have p19g := p19.2.2.2.2.2.2.1
               try have p19h := p19.2.2.2.2.2.2.2
               try have p20 := st2 (V := (u2.alloc (.cells #[.slice none 0 0, .slice none 0 0] 84))) (g := u2.heap.size) (g' := (u1.heap.size + 1)) (bx_new u2) (bx_old e3) (by omega) (.slice xa xn xc) (.slice none 0 0)
               try have p20a := p20.1
               try have p20b := p20.2.1
               try have p20c := p20.2.2.1
               try have p20d := p20.2.2.2.1
               try have p20e := p20.2.2.2.2.1
               try have p20f := p20.2.2.2.2.2.1
               try have p20g := p20.2.2.2.2.2.2.1
               try have p20h := p20.2.2.2.2.2.2.2
               try have p21 := st2 (V := ((u2.alloc (.cells #[.slice none 0 0, .slice none 0 0] 84)).alloc (.cells #[.slice none 0 0, .slice none 0 0] 84))) (g := u2.heap.size) (g' := (u2.heap.size + 1)) (bx_old (bx_new u2)) (bx_new2 u2) (by omega) (.slice xa xn xc) (.slice none 0 0)
               try have p21a := p21.1
               try have p21b := p21.2.1
               try have p21c := p21.2.2.1
               try have p21d := p21.2.2.2.1
               try have p21e := p21.2.2.2.2.1
               try have p21f := p21.2.2.2.2.2.1
               try have p21g := p21.2.2.2.2.2.2.1
               try have p21h := p21.2.2.2.2.2.2.2
               try have p22 := st2 (V := ((u2.alloc (.cells #[.slice none 0 0, .slice none 0 0] 84)).alloc (.cells #[.slice none 0 0, .slice none 0 0] 84))) (g := (u2.heap.size + 1)) (g' := u2.heap.size) (bx_new2 u2) (bx_old (bx_new u2)) (by omega) (.slice xa xn xc) (.slice none 0 0)
               try have p22a := p22.1
               try have p22b := p22.2.1
               try have p22c := p22.2.2.1
               try have p22d := p22.2.2.2.1
               try have p22e := p22.2.2.2.2.1
               try have p22f := p22.2.2.2.2.2.1
               try have p22g := p22.2.2.2.2.2.2.1
               try have p22h := p22.2.2.2.2.2.2.2))
          all_goals
            go_wp2_with fail
            go_meet
            case rel => exact ⟨_, _, rfl, rfl, rfl, (by first | exact bxt1 hU2 (xa, xn, xc) (ya, yn, yc) | exact bxt1' hU2 (xa, xn, xc) (ya, yn, yc) | exact bxt2 hU2 e0 (by omega) (xa, xn, xc) (ya, yn, yc) | exact bxt2' hU2 e0 (by omega) (xa, xn, xc) (ya, yn, yc) | exact bxt2 hU2 e1 (by omega) (xa, xn, xc) (ya, yn, yc) | exact bxt2' hU2 e1 (by omega) (xa, xn, xc) (ya, yn, yc) | exact bxt2 hU2 e2 (by omega) (xa, xn, xc) (ya, yn, yc) | exact bxt2' hU2 e2 (by omega) (xa, xn, xc) (ya, yn, yc) | exact bxt2 hU2 e3 (by omega) (xa, xn, xc) (ya, yn, yc) | exact bxt2' hU2 e3 (by omega) (xa, xn, xc) (ya, yn, yc) | exact bxt3 hU2 e0 e1 (by omega) (by omega) (by omega) (xa, xn, xc) (ya, yn, yc) | exact bxt3 hU2 e0 e2 (by omega) (by omega) (by omega) (xa, xn, xc) (ya, yn, yc) | exact bxt3 hU2 e0 e3 (by omega) (by omega) (by omega) (xa, xn, xc) (ya, yn, yc) | exact bxt3 hU2 e1 e0 (by omega) (by omega) (by omega) (xa, xn, xc) (ya, yn, yc) | exact bxt3 hU2 e1 e2 (by omega) (by omega) (by omega) (xa, xn, xc) (ya, yn, yc) | exact bxt3 hU2 e1 e3 (by omega) (by omega) (by omega) (xa, xn, xc) (ya, yn, yc) | exact bxt3 hU2 e2 e0 (by omega) (by omega) (by omega) (xa, xn, xc) (ya, yn, yc) | exact bxt3 hU2 e2 e1 (by omega) (by omega) (by omega) (xa, xn, xc) (ya, yn, yc) | exact bxt3 hU2 e2 e3 (by omega) (by omega) (by omega) (xa, xn, xc) (ya, yn, yc) | exact bxt3 hU2 e3 e0 (by omega) (by omega) (by omega) (xa, xn, xc) (ya, yn, yc) | exact bxt3 hU2 e3 e1 (by omega) (by omega) (by omega) (xa, xn, xc) (ya, yn, yc) | exact bxt3 hU2 e3 e2 (by omega) (by omega) (by omega) (xa, xn, xc) (ya, yn, yc))⟩
        case rest =>
          obtain ⟨g16, g17, rfl, rfl, rfl, HBT⟩ := hcut
          have HTB : Hid (TW w M N kd kn A B f2 L2 ps2 ws2 (.slice va2 ps2.length vc2) wc) := HTQ2.out.later HBT.out.bel
          have hMU : M < ws2'.heap.size := Nat.lt_of_lt_of_le HTQ2.out.hM HTQ2.out.bel.size
          have HBC : Hid (∀ v, BxT ws2' g16 g17 (xa, xn, xc) (ya, yn, yc) v → v.cell? ⟨g16, 0, none⟩ = some (.slice xa xn xc) ∧ v.cell? ⟨g16, 1, none⟩ = some (.slice none 0 0) ∧ v.cell? ⟨g17, 0, none⟩ = some (.slice ya yn yc) ∧ v.cell? ⟨g17, 1, none⟩ = some (.slice none 0 0)) := fun v hv => ⟨cell_at hv.h16 0, cell_at hv.h16 1, cell_at hv.h17 0, cell_at hv.h17 1⟩
          obtain ⟨p0, p1, q0, q1⟩ := HBC.out wc HBT.out
          clear HTQ2
          go_upto_region 15 with fail
          go_cut [85, 49] from 49 to 100 (fun s85 s49 wx => ∃ t : Bool, s85 = .bool t ∧ s49 = .int .i64 (i : Int) ∧ Hid (Aft w M N kd kn A B L2 ps2 ws2 (.slice va2 ps2.length vc2) ⟨bx, ox + i * 3, none⟩ ⟨by', oy + i * 3, none⟩ g16 g17 (xa, xn, xc) (ya, yn, yc) t wx))
          case first =>
            have HMG : Hid (∀ v, Below wc.heap.size wc v → Calls Try.prog 50 #[.map (some M), .pointer (some ⟨bx, ox + i * 3, none⟩), .pointer (some ⟨by', oy + i * 3, none⟩)] v fun e v' => ∃ t : Bool, e = .returned (.bool t) ∧ Aft w M N kd kn A B L2 ps2 ws2 (.slice va2 ps2.length vc2) ⟨bx, ox + i * 3, none⟩ ⟨by', oy + i * 3, none⟩ g16 g17 (xa, xn, xc) (ya, yn, yc) (!t) v') := fun v hv => by
              have hT := HTB.out.later (show Bel wc v from hv)
              obtain ⟨rk, hrk⟩ := hT.rank
              refine (merge_one M f2 rk _ _ v hT.map hrk (hT.node _ HXN.out).pl (hT.node _ HYN.out).pl).mono ?_
              rintro e v' ⟨t, f', rfl, hm, hr, ho, h0, h1⟩
              exact ⟨t, rfl, Aft.merge hT (HBT.out.later hv) hMU hm hr ho h0 h1⟩
            by_cases hx0 : xn = 0
            · have HX0 := Lib.hid hx0
              clear hx0
              by_cases hy0 : yn = 0
              · have HY0 := Lib.hid hy0
                clear hy0
                have HLF : Hid (kn ⟨bx, ox + i * 3, none⟩ = kn ⟨by', oy + i * 3, none⟩ ∧ kd ⟨bx, ox + i * 3, none⟩ = [] ∧ kd ⟨by', oy + i * 3, none⟩ = []) := ⟨HKN.out, List.eq_nil_of_length_eq_zero (by rw [HXSH.out.len]; exact HX0.out), List.eq_nil_of_length_eq_zero (by rw [HYSH.out.len]; exact HY0.out)⟩
                go_wp2_with fail
                refine (isLeaf_one wc xa xn xc none 0 0).mono ?_
                rintro e v1 ⟨rfl, hb1⟩
                have e1 : (decide (xn = 0) && decide ((0 : Nat) = 0)) = true := by simp [HX0.out]
                rw [e1]
                have HB1 := Lib.hid (HBT.out.later hb1)
                have HT1 := Lib.hid (HTB.out.later (show Bel wc v1 from hb1))
                obtain ⟨r0, r1, t0, t1⟩ := HBC.out v1 HB1.out
                clear e1 p0 p1 q0 q1
                go_wp2_with fail
                refine (isLeaf_one v1 ya yn yc none 0 0).mono ?_
                rintro e v2 ⟨rfl, hb2⟩
                have e2 : (decide (yn = 0) && decide ((0 : Nat) = 0)) = true := by simp [HY0.out]
                rw [e2]
                have HB2 := Lib.hid (HB1.out.later hb2)
                have HT2' := Lib.hid (HT1.out.later (show Bel v1 v2 from hb2))
                clear e2
                go_wp2_with fail
                go_meet
                case rel => exact ⟨true, rfl, rfl, ⟨HB2.out.h16, HB2.out.h17, fun _ => ⟨f2, HT2'.out, .inl HLF.out⟩, fun h => by cases h⟩⟩
              · have HY0 : Hid (¬ yn = 0) := hy0
                clear hy0
                go_wp2_with fail
                refine (isLeaf_one wc xa xn xc none 0 0).mono ?_
                rintro e v1 ⟨rfl, hb1⟩
                have e1 : (decide (xn = 0) && decide ((0 : Nat) = 0)) = true := by simp [HX0.out]
                rw [e1]
                have HB1 := Lib.hid (HBT.out.later hb1)
                have HH1 := Lib.hid hb1
                obtain ⟨r0, r1, t0, t1⟩ := HBC.out v1 HB1.out
                clear e1 p0 p1 q0 q1
                go_wp2_with fail
                refine (isLeaf_one v1 ya yn yc none 0 0).mono ?_
                rintro e v2 ⟨rfl, hb2⟩
                have e2 : (decide (yn = 0) && decide ((0 : Nat) = 0)) = false := by simp [HY0.out]
                rw [e2]
                have HH2 := Lib.hid (HH1.out.trans (hb2.mono HH1.out.size))
                clear e2
                go_wp2_with fail
                refine (HMG.out v2 HH2.out).mono ?_
                rintro e v3 ⟨t, rfl, hA⟩
                have HA := Lib.hid hA
                clear hA
                go_wp2_with fail
                go_meet
                case rel => exact ⟨!t, rfl, rfl, HA.out⟩
            · have HX0 : Hid (¬ xn = 0) := hx0
              clear hx0
              go_wp2_with fail
              refine (isLeaf_one wc xa xn xc none 0 0).mono ?_
              rintro e v1 ⟨rfl, hb1⟩
              have e1 : (decide (xn = 0) && decide ((0 : Nat) = 0)) = false := by simp [HX0.out]
              rw [e1]
              have HH1 := Lib.hid hb1
              clear e1 p0 p1 q0 q1
              go_wp2_with fail
              refine (HMG.out v1 HH1.out).mono ?_
              rintro e v3 ⟨t, rfl, hA⟩
              have HA := Lib.hid hA
              clear hA
              go_wp2_with fail
              go_meet
              case rel => exact ⟨!t, rfl, rfl, HA.out⟩
          case rest =>
            obtain ⟨t, rfl, rfl, HAF⟩ := hcut
            have HSD : Hid (∀ j, j < i + 1 → ∀ L', (∀ u v, Dn kd kn L2 u v → Dn kd kn L' u v) → Dn kd kn L' ⟨bx, ox + i * 3, none⟩ ⟨by', oy + i * 3, none⟩ → ∀ x y, ql[j]? = some x → qr[j]? = some y → Dn kd kn L' x y) := fun j hj L' hL' hd x y hx hy => by
              by_cases hji : j = i
              · subst hji
                rw [HXL.out] at hx
                rw [HYL.out] at hy
                cases hx
                cases hy
                exact hd
              · exact hL' _ _ (HD2.out j (by omega) x y hx hy)
            have HWS2 : Hid (wei sz ws2 + 2 * sz ⟨bx, ox + i * 3, none⟩ + 2 * sumS sz (ql.drop (i + 1)) + 1 ≤ wei sz ws) := by
              have h1 := HW2.out
              rw [sumS_drop sz ql i _ HXL.out] at h1
              have h2 : wei sz ws2 + 2 * sz ⟨bx, ox + i * 3, none⟩ + 2 * sumS sz (ql.drop (i + 1)) + 1 ≤ wei sz ws := by omega
              exact h2
            clear p0 p1 q0 q1
            cases t with
            | true =>
              obtain ⟨f3, hT3, hD3⟩ := HAF.out.done rfl
              have HT3 := Lib.hid hT3
              have HD3 := Lib.hid hD3
              clear hT3 hD3
              go_wp2_with fail
              go_roundw
              case rel =>
                exact ⟨i + 1, f3, L2, ps2, ws2, va2, vc2, by go_num, by omega, rfl, HT3.out, HO2.out, (fun j hj x y hx hy => HSD.out j hj L2 (fun _ _ h => h) HD3.out x y hx hy), (show wei sz ws2 + 2 * sumS sz (ql.drop (i + 1)) + 1 ≤ wei sz ws by have := HWS2.out; omega)⟩
              case measure => simp [intOf]; omega
            | false =>
              obtain ⟨f3, hT3⟩ := HAF.out.todo rfl
              have HT3 := Lib.hid hT3
              clear hT3
              have HO3 : Hid (Owed kd kn ((⟨bx, ox + i * 3, none⟩, ⟨by', oy + i * 3, none⟩) :: L2) A B ((ql, qr) :: (ws2 ++ [(kd ⟨bx, ox + i * 3, none⟩, kd ⟨by', oy + i * 3, none⟩), ([], [])]))) := HO2.out.add HXL.out HYL.out HKN.out
              have HL2 : Hid (ws2.length = ps2.length) := HT3.out.sl.1.symm
              have hg16M : M < g16 := Nat.lt_of_lt_of_le hMU HBT.out.l16
              have hg17M : M < g17 := Nat.lt_of_lt_of_le hMU HBT.out.l17
              go_wp2_with fail
              go_loopw [9, 86] (fun s9 s86 wr3 => ∃ (j : Nat) (ps3 : List (Sl3 × Sl3)) (va3 : Option Addr) (vc3 : Nat), s86 = .int .i64 (j : Int) ∧ j ≤ 2 ∧ s9 = .slice va3 ps3.length vc3 ∧ Hid (TW w M N kd kn A B f3 ((⟨bx, ox + i * 3, none⟩, ⟨by', oy + i * 3, none⟩) :: L2) ps3 (ws2 ++ [(kd ⟨bx, ox + i * 3, none⟩, kd ⟨by', oy + i * 3, none⟩), ([], [])].take j) s9 wr3) ∧ Hid (wr3.heap[g16]? = some (.cells #[sv (xa, xn, xc), .slice none 0 0] 84 (0, 0)) ∧ wr3.heap[g17]? = some (.cells #[sv (ya, yn, yc), .slice none 0 0] 84 (0, 0))) ∧ Hid (∀ gg, s9.ownBlock = some gg → gg ≠ g16 ∧ gg ≠ g17)) (fun _ s86 _ => 2 - (intOf s86).toNat)
              case atStart => exact ⟨0, ps2, va2, vc2, rfl, by omega, rfl, (by rw [List.take_zero, List.append_nil]; exact HT3.out), ⟨HAF.out.h16, HAF.out.h17⟩, (fun gg h9 => by have := HRB.out gg h9; have := HBT.out.l16; have := HBT.out.l17; exact ⟨by omega, by omega⟩)⟩
              case round =>
                obtain ⟨j, ps3, va3, vc3, rfl, hj, hv3, HT4, HBB, HGG⟩ := hrel
                subst hv3
                have hcase : j = 0 ∨ j = 1 ∨ j = 2 := by omega
                rcases hcase with rfl | rfl | rfl
                · have c16 : wr.cell? ⟨g16, 0, none⟩ = some (.slice xa xn xc) := cell_at HBB.out.1 0
                  have c17 : wr.cell? ⟨g17, 0, none⟩ = some (.slice ya yn yc) := cell_at HBB.out.2 0
                  have hpl : ps3.length ≤ 4294967296 := by
                    have h1 := HT4.out.sl.1
                    have h4 : (ws2 ++ [(kd ⟨bx, ox + i * 3, none⟩, kd ⟨by', oy + i * 3, none⟩), ([], [])].take 0).length = ws2.length + 0 := by simp
                    rw [h4] at h1
                    have h2 := len_wei sz ws2
                    have h3 := HWS2.out
                    have h5 := HSZ.out _ HXN.out
                    omega
                  obtain ⟨ei, hinf, hz0, hz1', hz2⟩ := info_parts infoPr
                  have hLV : ((wr.alloc (.cells #[.slice xa xn xc, .slice ya yn yc] 84)).drew).ownsRow w.heap.size 84 2 (.slice va3 ps3.length vc3) ps3.length (flatW ps3) := HT4.out.row.far fun g _ hg => Below.heap_alloc wr _ _ hg
                  have hwz : w.heap.size ≤ wr.heap.size := HT4.out.oth.1
                  have hb16 : g16 < wr.heap.size := (Array.getElem?_eq_some_iff.1 HBB.out.1).1
                  have hb17 : g17 < wr.heap.size := (Array.getElem?_eq_some_iff.1 HBB.out.2).1
                  go_wp2_with fail
                  have hA1 : ps3.length + 1 ≤ maxLen := by unfold maxLen; omega
                  have hA2 : (ps3.length + 1) * 48 ≤ 140737488355328 := by omega
                  have hA4 : ((wr.alloc (.cells #[.slice xa xn xc, .slice ya yn yc] 84)).drew).heap.size = wr.heap.size + 1 := World.size_alloc wr _
                  have hA3 : w.heap.size ≤ ((wr.alloc (.cells #[.slice xa xn xc, .slice ya yn yc] 84)).drew).heap.size := by rw [hA4]; omega
                  have hA5 : ∀ u ∈ ([.slice xa xn xc, .slice ya yn yc] : List Value), u.oneCell' = true := by intro u hu; simp at hu; rcases hu with rfl | rfl <;> rfl
                  have hA6 := World.news_of_block (w := (wr.alloc (.cells #[.slice xa xn xc, .slice ya yn yc] 84)).drew) (cs := #[.slice xa xn xc, .slice ya yn yc]) (t := 84) (fr := (0, 0)) (heap_alloc_new wr _)
                  go_region_law (refine step_append_lies _ (by rfl) _ _ _ (by rfl) w.heap.size 84 ei _ 2 48 Try.underlying85 hinf hz0 hz1' hz2 rfl (Nat.zero_lt_succ _) (.slice va3 ps3.length vc3) ps3.length _ (by rfl) hLV ⟨wr.heap.size, 0, none⟩ 1 1 [.slice xa xn xc, .slice ya yn yc] (by rfl) rfl hA6 hA5 (Nat.zero_lt_succ _) hA1 hA2 hA3 (wr.heap.size + 1) hA4 ?_; intro g5 cap5 w5 hown5 hgrow hat hlt5)
                  all_goals
                    have hst5 : ∀ b, b < wr.heap.size → some b ≠ (Value.slice va3 ps3.length vc3).ownBlock → w5.heap[b]? = wr.heap[b]? := fun b hb hne => (hgrow.block b (show b < (wr.alloc _).heap.size by rw [World.size_alloc]; omega) hne).trans (Below.heap_alloc wr _ b hb)
                    have HB5 : Hid (w5.heap[g16]? = some (.cells #[sv (xa, xn, xc), .slice none 0 0] 84 (0, 0)) ∧ w5.heap[g17]? = some (.cells #[sv (ya, yn, yc), .slice none 0 0] 84 (0, 0))) := ⟨(hst5 g16 hb16 fun e => (HGG.out _ e.symm).1 rfl).trans HBB.out.1, (hst5 g17 hb17 fun e => (HGG.out _ e.symm).2 rfl).trans HBB.out.2⟩
                    have HG5 : Hid (∀ gg, (Value.slice (some ⟨g5, 0, none⟩) (ps3.length + 1) cap5).ownBlock = some gg → gg ≠ g16 ∧ gg ≠ g17) := fun gg h9 => by
                      have h8 : g5 = gg := by cases h9; rfl
                      rcases hat with h7 | h7
                      · exact HGG.out gg (by rw [← h8]; exact h7)
                      · exact ⟨by omega, by omega⟩
                    have HT5 : Hid (TW w M N kd kn A B f3 ((⟨bx, ox + i * 3, none⟩, ⟨by', oy + i * 3, none⟩) :: L2) (ps3 ++ [((xa, xn, xc), (ya, yn, yc))]) (ws2 ++ [(kd ⟨bx, ox + i * 3, none⟩, kd ⟨by', oy + i * 3, none⟩), ([], [])].take 1) (.slice (some ⟨g5, 0, none⟩) (ps3 ++ [((xa, xn, xc), (ya, yn, yc))]).length cap5) w5) := by
                      have hrow5 : RowW w5 w.heap.size (.slice (some ⟨g5, 0, none⟩) (ps3 ++ [((xa, xn, xc), (ya, yn, yc))]).length cap5) (ps3 ++ [((xa, xn, xc), (ya, yn, yc))]) := by
                        unfold RowW
                        rw [flatW_app, List.length_append]
                        exact hown5
                      have h9 := HT4.out.push (q := (kd ⟨bx, ox + i * 3, none⟩, kd ⟨by', oy + i * 3, none⟩)) hgrow hrow5 HXSH.out HYSH.out
                      rw [List.append_assoc] at h9
                      exact h9
                    have HL5 : Hid ((ps3 ++ [((xa, xn, xc), (ya, yn, yc))]).length = ps3.length + 1) := List.length_append
                    clear hown5 hgrow hat hlt5 hst5 hLV hA6 hA5 hA3 hA4 c16 c17
                    go_wp2_with fail
                    go_roundw
                    case rel => exact ⟨1, ps3 ++ [((xa, xn, xc), (ya, yn, yc))], some ⟨g5, 0, none⟩, cap5, rfl, by omega, by rw [HL5.out], (by rw [← HL5.out]; exact HT5.out), HB5.out, HG5.out⟩
                    case measure => simp [intOf]
                · have c16 : wr.cell? ⟨g16, 1, none⟩ = some (.slice none 0 0) := cell_at HBB.out.1 1
                  have c17 : wr.cell? ⟨g17, 1, none⟩ = some (.slice none 0 0) := cell_at HBB.out.2 1
                  have hpl : ps3.length ≤ 4294967296 := by
                    have h1 := HT4.out.sl.1
                    have h4 : (ws2 ++ [(kd ⟨bx, ox + i * 3, none⟩, kd ⟨by', oy + i * 3, none⟩), ([], [])].take 1).length = ws2.length + 1 := by simp
                    rw [h4] at h1
                    have h2 := len_wei sz ws2
                    have h3 := HWS2.out
                    have h5 := HSZ.out _ HXN.out
                    omega
                  obtain ⟨ei, hinf, hz0, hz1', hz2⟩ := info_parts infoPr
                  have hLV : ((wr.alloc (.cells #[.slice none 0 0, .slice none 0 0] 84)).drew).ownsRow w.heap.size 84 2 (.slice va3 ps3.length vc3) ps3.length (flatW ps3) := HT4.out.row.far fun g _ hg => Below.heap_alloc wr _ _ hg
                  have hwz : w.heap.size ≤ wr.heap.size := HT4.out.oth.1
                  have hb16 : g16 < wr.heap.size := (Array.getElem?_eq_some_iff.1 HBB.out.1).1
                  have hb17 : g17 < wr.heap.size := (Array.getElem?_eq_some_iff.1 HBB.out.2).1
                  go_wp2_with fail
                  have hA1 : ps3.length + 1 ≤ maxLen := by unfold maxLen; omega
                  have hA2 : (ps3.length + 1) * 48 ≤ 140737488355328 := by omega
                  have hA4 : ((wr.alloc (.cells #[.slice none 0 0, .slice none 0 0] 84)).drew).heap.size = wr.heap.size + 1 := World.size_alloc wr _
                  have hA3 : w.heap.size ≤ ((wr.alloc (.cells #[.slice none 0 0, .slice none 0 0] 84)).drew).heap.size := by rw [hA4]; omega
                  have hA5 : ∀ u ∈ ([.slice none 0 0, .slice none 0 0] : List Value), u.oneCell' = true := by intro u hu; simp at hu; rcases hu with rfl | rfl <;> rfl
                  have hA6 := World.news_of_block (w := (wr.alloc (.cells #[.slice none 0 0, .slice none 0 0] 84)).drew) (cs := #[.slice none 0 0, .slice none 0 0]) (t := 84) (fr := (0, 0)) (heap_alloc_new wr _)
                  go_region_law (refine step_append_lies _ (by rfl) _ _ _ (by rfl) w.heap.size 84 ei _ 2 48 Try.underlying85 hinf hz0 hz1' hz2 rfl (Nat.zero_lt_succ _) (.slice va3 ps3.length vc3) ps3.length _ (by rfl) hLV ⟨wr.heap.size, 0, none⟩ 1 1 [.slice none 0 0, .slice none 0 0] (by rfl) rfl hA6 hA5 (Nat.zero_lt_succ _) hA1 hA2 hA3 (wr.heap.size + 1) hA4 ?_; intro g5 cap5 w5 hown5 hgrow hat hlt5)
                  all_goals
                    have hst5 : ∀ b, b < wr.heap.size → some b ≠ (Value.slice va3 ps3.length vc3).ownBlock → w5.heap[b]? = wr.heap[b]? := fun b hb hne => (hgrow.block b (show b < (wr.alloc _).heap.size by rw [World.size_alloc]; omega) hne).trans (Below.heap_alloc wr _ b hb)
                    have HB5 : Hid (w5.heap[g16]? = some (.cells #[sv (xa, xn, xc), .slice none 0 0] 84 (0, 0)) ∧ w5.heap[g17]? = some (.cells #[sv (ya, yn, yc), .slice none 0 0] 84 (0, 0))) := ⟨(hst5 g16 hb16 fun e => (HGG.out _ e.symm).1 rfl).trans HBB.out.1, (hst5 g17 hb17 fun e => (HGG.out _ e.symm).2 rfl).trans HBB.out.2⟩
                    have HG5 : Hid (∀ gg, (Value.slice (some ⟨g5, 0, none⟩) (ps3.length + 1) cap5).ownBlock = some gg → gg ≠ g16 ∧ gg ≠ g17) := fun gg h9 => by
                      have h8 : g5 = gg := by cases h9; rfl
                      rcases hat with h7 | h7
                      · exact HGG.out gg (by rw [← h8]; exact h7)
                      · exact ⟨by omega, by omega⟩
                    have HT5 : Hid (TW w M N kd kn A B f3 ((⟨bx, ox + i * 3, none⟩, ⟨by', oy + i * 3, none⟩) :: L2) (ps3 ++ [(((none, 0, 0), (none, 0, 0)) : Sl3 × Sl3)]) (ws2 ++ [(kd ⟨bx, ox + i * 3, none⟩, kd ⟨by', oy + i * 3, none⟩), ([], [])].take 2) (.slice (some ⟨g5, 0, none⟩) (ps3 ++ [(((none, 0, 0), (none, 0, 0)) : Sl3 × Sl3)]).length cap5) w5) := by
                      have hrow5 : RowW w5 w.heap.size (.slice (some ⟨g5, 0, none⟩) (ps3 ++ [(((none, 0, 0), (none, 0, 0)) : Sl3 × Sl3)]).length cap5) (ps3 ++ [(((none, 0, 0), (none, 0, 0)) : Sl3 × Sl3)]) := by
                        unfold RowW
                        rw [flatW_app, List.length_append]
                        exact hown5
                      have h9 := HT4.out.push (q := ([], [])) hgrow hrow5 (SlN.nil N) (SlN.nil N)
                      rw [List.append_assoc] at h9
                      exact h9
                    have HL5 : Hid ((ps3 ++ [(((none, 0, 0), (none, 0, 0)) : Sl3 × Sl3)]).length = ps3.length + 1) := List.length_append
                    clear hown5 hgrow hat hlt5 hst5 hLV hA6 hA5 hA3 hA4 c16 c17
                    go_wp2_with fail
                    go_roundw
                    case rel => exact ⟨2, ps3 ++ [(((none, 0, 0), (none, 0, 0)) : Sl3 × Sl3)], some ⟨g5, 0, none⟩, cap5, rfl, by omega, by rw [HL5.out], (by rw [← HL5.out]; exact HT5.out), HB5.out, HG5.out⟩
                    case measure => simp [intOf]
                · go_wp2_with fail
                  go_roundw
                  case rel =>
                    exact ⟨i + 1, f3, _, ps3, _, va3, vc3, by go_num, by omega, rfl, HT4.out, HO3.out, (fun j hj x y hx hy => HSD.out j hj _ (fun _ _ h => h.mono _) (.inr fun Q hQ hL => hL (⟨bx, ox + i * 3, none⟩, ⟨by', oy + i * 3, none⟩) (List.mem_cons.2 (.inl rfl))) x y hx hy), (by
                      have h1 := HWS2.out
                      have h2 := HSZ.out _ HXN.out
                      show wei sz (ws2 ++ [(kd ⟨bx, ox + i * 3, none⟩, kd ⟨by', oy + i * 3, none⟩), ([], [])]) + 2 * sumS sz (ql.drop (i + 1)) + 1 ≤ wei sz ws
                      rw [wei_app]
                      simp only [wei, sumS]
                      omega)⟩
                  case measure => simp [intOf]; omega
      · obtain rfl : i = ln := by omega
        have HPAY : Hid (Owed kd kn L2 A B ws2) := HO2.out.pay ⟨by show ql.length = qr.length; rw [HSL.out.len, HSR.out.len], fun j x y hx hy => HD2.out j (by have := (List.getElem?_eq_some_iff.1 hx).1; rw [HSL.out.len] at this; exact this) x y hx hy⟩
        have HWB : Hid (wei sz ws2 ≤ 4294967296) := (show wei sz ws2 ≤ 4294967296 by have := HW2.out; omega)
        have hR : ∃ m, ∃ (f : Addr → Option Addr) (L : List (Addr × Addr)) (ps : List (Sl3 × Sl3)) (ws : List (List Addr × List Addr)) (va : Option Addr) (vc : Nat), Value.slice va2 ps2.length vc2 = .slice va ps.length vc ∧ TW w M N kd kn A B f L ps ws (Value.slice va2 ps2.length vc2) wr ∧ Owed kd kn L A B ws ∧ m = wei sz ws ∧ m ≤ 4294967296 := ⟨_, f2, L2, ps2, ws2, va2, vc2, rfl, HT2.out, HPAY.out, rfl, HWB.out⟩
        have HR := Lib.hid hR
        have HMS : Hid (mu (Value.slice va2 ps2.length vc2, wr) < wei sz ws) := by
          have h1 := (HMU.out (Value.slice va2 ps2.length vc2, wr) hR).2 (wei sz ws2) ⟨f2, L2, ps2, ws2, va2, vc2, rfl, HT2.out, HPAY.out, rfl, HWB.out⟩
          have h2 : mu (Value.slice va2 ps2.length vc2, wr) < wei sz ws := by have := HW2.out; omega
          exact h2
        clear hR
        go_wp2_with fail
        go_roundw
        case rel => exact HR.out
        case measure => rw [HMM.out]; exact HMS.out

end Go.Proofs.Ytjmfnpljkiobkaa
