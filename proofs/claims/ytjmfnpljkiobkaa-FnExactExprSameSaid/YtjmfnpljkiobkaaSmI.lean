/- The program's ExprSame: at two trees in rows of expressions it answers whether they are equal; nothing that was there has changed. -/
import Derived.Test.YtjmfnpljkiobkaaTrW
import Derived.Test.YtjmfnpljkiobkaaMod
import Derived.Test.YtjmfnpljkiobkaaEq
namespace Go.Proofs.Ytjmfnpljkiobkaa
open Go.RowKit Go.ChangeMaps
set_option linter.unusedVariables false

theorem sumS_cnt {s : Addr → Nat} : ∀ (l : List Addr) (es : List E), l.length = es.length → (∀ (i : Nat) (y : Addr) (f : E), l[i]? = some y → es[i]? = some f → s y = cntE f) → sumS s l = cntEs es
  | [], [], _, _ => by simp [sumS, cntEs]
  | [], _ :: _, h, _ => by simp at h
  | _ :: _, [], h, _ => by simp at h
  | x :: l, f :: es, h, hs => by
    rw [sumS, cntEs, hs 0 x f rfl rfl, sumS_cnt l es (by simpa using h) fun i y g hy hg => hs (i + 1) y g (by simpa using hy) (by simpa using hg)]
theorem NdE.cnt {W : World} {D : Nat → Prop} : ∀ {n : Nat} {e : E} {x : Addr}, NdE W D n e x → szW W n x = cntE e
  | 0, _, _, h => by obtain ⟨m, hm⟩ := h.pos; omega
  | n + 1, e, x, h => by
    obtain ⟨k1, k2⟩ := h.kd
    rw [szW, cntE_eq, sumS_cnt _ e.kids k1]
    intro i y f hy hf
    obtain ⟨g, hg, hg'⟩ := k2 i y hy
    rw [hf] at hg
    cases hg
    exact hg'.cnt

set_option maxRecDepth 100000 in
set_option maxHeartbeats 4000000 in
theorem iExprSame_one (w : World) (D : Nat → Prop) (n m : Nat) (e f : E) (c0 c1 c2 d0 d1 d2 : Value) (he : IsE w D n e [c0, c1, c2]) (hf : IsE w D m f [d0, d1, d2]) (hD : ∀ k, D k → PlB w k) (hc : cntE e ≤ 1073741824) :
    Calls Try.prog 15 #[.agg #[c0, c1, c2], .agg #[d0, d1, d2]] w (AnsB (eqB e f) w) := by
  obtain ⟨a, ac, rfl, rfl, rfl, h1, h2⟩ := he.shape
  obtain ⟨b, bc, rfl, rfl, rfl, h3, h4⟩ := hf.shape
  have HE := Lib.hid he
  have HF := Lib.hid hf
  have HD := Lib.hid hD
  clear he hf hD
  go_enter Try.func15, Try.ntmps15
  have hmk : ∀ W, (Instr.makeMap 60 none).run Try.prog W = .ok (.map (some W.heap.size)) (W.alloc (.map #[] 0)) := fun W => run_makeMap _ _
  go_wp2_with fail
  obtain ⟨W3, hW3⟩ : ∃ W, ((w.alloc (.cells #[.int .i64 e.kind, .int .i64 e.value, .slice a e.kids.length ac] 38)).alloc (.cells #[.int .i64 f.kind, .int .i64 f.value, .slice b f.kids.length bc] 38)).alloc (.map #[] 0) = W := ⟨_, rfl⟩
  have hz3 : W3.heap.size = w.heap.size + 1 + 1 + 1 := by rw [← hW3]; simp
  have hM3 : W3.heap[w.heap.size + 1 + 1]? = some (.map #[] 0) := by
    have h := heap_alloc_new ((w.alloc (.cells #[.int .i64 e.kind, .int .i64 e.value, .slice a e.kids.length ac] 38)).alloc (.cells #[.int .i64 f.kind, .int .i64 f.value, .slice b f.kids.length bc] 38)) (.map #[] 0)
    rw [World.size_alloc, World.size_alloc] at h
    rw [← hW3]; exact h
  have hB3 : Below w.heap.size w W3 := by rw [← hW3]; exact (((Below.refl _ w).alloc (Nat.le_refl _) _).alloc (by simp) _).alloc (by simp; omega) _
  obtain ⟨W, hW⟩ : ∃ W, (W3.alloc (.cells #[.int .i64 e.kind, .int .i64 e.value, .slice a e.kids.length ac] 38)).alloc (.cells #[.int .i64 f.kind, .int .i64 f.value, .slice b f.kids.length bc] 38) = W := ⟨_, rfl⟩
  have hA : W.heap[w.heap.size + 1 + 1 + 1]? = some (.cells #[.int .i64 e.kind, .int .i64 e.value, .slice a e.kids.length ac] 38 (0, 0)) := by
    have h := heap_alloc_new W3 (.cells #[.int .i64 e.kind, .int .i64 e.value, .slice a e.kids.length ac] 38)
    rw [hz3] at h
    rw [← hW, Below.heap_alloc _ _ _ (by simp; omega)]; exact h
  have hBB : W.heap[w.heap.size + 1 + 1 + 1 + 1]? = some (.cells #[.int .i64 f.kind, .int .i64 f.value, .slice b f.kids.length bc] 38 (0, 0)) := by
    have h := heap_alloc_new (W3.alloc (.cells #[.int .i64 e.kind, .int .i64 e.value, .slice a e.kids.length ac] 38)) (.cells #[.int .i64 f.kind, .int .i64 f.value, .slice b f.kids.length bc] 38)
    rw [World.size_alloc, hz3] at h
    rw [← hW]; exact h
  have hB : Below W3.heap.size W3 W := by rw [← hW]; exact ((Below.refl _ W3).alloc (Nat.le_refl _) _).alloc (by simp) _
  have hMM := (hB.block (w.heap.size + 1 + 1) (by omega)).trans hM3
  have hlt : ∀ k, D k → k < w.heap.size := fun k hk => by
    obtain ⟨cs, h⟩ := HD.out k hk
    exact (Array.getElem?_eq_some_iff.1 h).1
  have hst : ∀ k, D k → W.heap[k]? = w.heap[k]? := fun k hk => (hB.block k (by have := hlt k hk; omega)).trans (hB3.block k (hlt k hk))
  have hD' : ∀ k, (D k ∨ k = w.heap.size + 1 + 1 + 1 ∨ k = w.heap.size + 1 + 1 + 1 + 1) → PlB W k := fun k hk => by
    rcases hk with hk | rfl | rfl
    · exact (HD.out k hk).stand (hst k hk)
    · exact ⟨_, hA⟩
    · exact ⟨_, hBB⟩
  have nE : NdE W (fun k => D k ∨ k = w.heap.size + 1 + 1 + 1 ∨ k = w.heap.size + 1 + 1 + 1 + 1) n e ⟨w.heap.size + 1 + 1 + 1, 0, none⟩ := ⟨rfl, .inr (.inl rfl), _, _, _, cell_at hA 0, cell_at hA 1, cell_at hA 2, HE.out.mono hst fun k hk => .inl hk⟩
  have nF : NdE W (fun k => D k ∨ k = w.heap.size + 1 + 1 + 1 ∨ k = w.heap.size + 1 + 1 + 1 + 1) m f ⟨w.heap.size + 1 + 1 + 1 + 1, 0, none⟩ := ⟨rfl, .inr (.inr rfl), _, _, _, cell_at hBB 0, cell_at hBB 1, cell_at hBB 2, HF.out.mono hst fun k hk => .inl hk⟩
  have hrun := treesSame_one W (w.heap.size + 1 + 1) (fun y => ∃ n' e', n' ≤ n + m ∧ NdE W (fun k => D k ∨ k = w.heap.size + 1 + 1 + 1 ∨ k = w.heap.size + 1 + 1 + 1 + 1) n' e' y) (kdW W) (knW W) (szW W (n + m)) (fun x hx => by
      obtain ⟨n', e', hn', hx⟩ := hx
      exact hx.szle hn') (fun _ => none) [] ⟨#[], 0, hMM, by simp, rfl⟩ ⟨fun _ => 0, fun a b h => by cases h⟩ (fun Q _ _ a b h => by cases h) (fun z hz => by simp at hz) (fun x hx => by
      obtain ⟨n', e', hn', hx⟩ := hx
      exact hx.node hn' hD') (some ⟨w.heap.size + 1 + 1 + 1, 0, none⟩) (some ⟨w.heap.size + 1 + 1 + 1 + 1, 0, none⟩) 1 1 1 1 [⟨w.heap.size + 1 + 1 + 1, 0, none⟩] [⟨w.heap.size + 1 + 1 + 1 + 1, 0, none⟩]
      ⟨rfl, rfl, Nat.le_refl _, by unfold maxLen; omega, fun x hx => by rw [List.mem_singleton] at hx; subst hx; exact ⟨n, e, by omega, nE⟩, fun b hb _ => by cases hb; rfl⟩
      ⟨rfl, rfl, Nat.le_refl _, by unfold maxLen; omega, fun x hx => by rw [List.mem_singleton] at hx; subst hx; exact ⟨m, f, by omega, nF⟩, fun b hb _ => by cases hb; rfl⟩
      (by rw [sumS, sumS, nE.sz (n + m) (by omega), nE.cnt]; omega)
  rw [hW3, hW]
  refine hrun.mono ?_
  rintro r w' ⟨t, rfl, ht, hb', _⟩
  have htf : t = eqB e f := by
    by_cases hef : e = f
    · rw [eqB_yes hef]
      refine ht.2 ⟨rfl, fun i x y hx hy d => ?_⟩
      subst hef
      cases i with
      | zero => cases hx; cases hy; exact NdE.ag (e := e) d nE nF
      | succ i => simp at hx
    · rw [eqB_no hef]
      cases t with
      | false => rfl
      | true => exact absurd (NdE.eq nE nF fun d => (ht.1 rfl).2 0 _ _ rfl rfl d) hef
  have HFIN : Hid (AnsB (eqB e f) w (.returned (.bool t)) w') := by
    rw [htf]
    exact AnsB.of rfl ((hB3.trans (hB.mono (by omega))).trans (hb'.mono (by omega)))
  clear hrun hb' ht htf nE nF hD' hst hlt hMM hA hBB hB hB3 hM3 hW hW3
  go_wp2_with fail
  go_ret
  exact HFIN.out

end Go.Proofs.Ytjmfnpljkiobkaa
