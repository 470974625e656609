/- Expressions, statements and programs as plain data, what it says that they are valid, and that a walk over the nodes in order sees it: plain mathematics, no condition. -/
namespace Go.Proofs.YtbifbmpflhdijaaDoor

structure E where
  kind : Int
  value : Int
  kids : List E

structure S where
  kind : Int
  target : Int
  index : E
  value : E
  count : Int
  body : List S
  els : List S

structure Pg where
  vars : List Int
  arrs : List Int
  body : List S

/-! ### Expressions -/
def lokB (n : Int) : Bool := decide (0 ≤ n) && decide (n ≤ 3)
def arity (k : Int) : Int := if k = 1 ∨ k = 2 then 0 else if k = 3 then 1 else if 4 ≤ k ∧ k ≤ 10 then 2 else if k = 11 then 3 else -1
def limit (nv na : Nat) (k : Int) : Int := if k = 1 then 256 else if k = 2 then nv else if k = 3 then na else 1
def atomB (e : E) : Bool := decide (e.kind = 1) || decide (e.kind = 2)
def kid0B (es : List E) : Bool := match es with | [] => false | x :: _ => atomB x
/-- A node is as its kind asks, its operands aside. -/
def nodeB (nv na : Nat) (e : E) : Bool := decide ((e.kids.length : Int) = arity e.kind) && decide (0 ≤ e.value) && decide (e.value < limit nv na e.kind) && (!decide (e.kind = 3) || kid0B e.kids)
def shapeB (nv na : Nat) : Nat → E → Bool
  | 0, _ => false
  | d + 1, e => nodeB nv na e && e.kids.all (shapeB nv na d)
mutual
def cntE : E → Nat
  | ⟨_, _, ks⟩ => 1 + cntEs ks
def cntEs : List E → Nat
  | [] => 0
  | x :: xs => cntE x + cntEs xs
end
def rightB (nv na : Nat) (e : E) : Bool := shapeB nv na 5 e && decide (cntE e ≤ 15)
mutual
/-- The nodes in order, each with its level. -/
def preE : E → Nat → List (Nat × E)
  | ⟨k, v, ks⟩, l => (l, ⟨k, v, ks⟩) :: preEs ks (l + 1)
def preEs : List E → Nat → List (Nat × E)
  | [], _ => []
  | x :: xs, l => preE x l ++ preEs xs l
end
theorem preE_eq (e : E) (l : Nat) : preE e l = (l, e) :: preEs e.kids (l + 1) := by cases e; rw [preE]
theorem cntE_eq (e : E) : cntE e = 1 + cntEs e.kids := by cases e; rw [cntE]
mutual
theorem len_preE : ∀ (e : E) (l : Nat), (preE e l).length = cntE e
  | ⟨_, _, ks⟩, l => by rw [preE, cntE, List.length_cons, len_preEs ks (l + 1)]; omega
theorem len_preEs : ∀ (es : List E) (l : Nat), (preEs es l).length = cntEs es
  | [], _ => by rw [preEs, cntEs]; rfl
  | x :: xs, l => by rw [preEs, cntEs, List.length_append, len_preE x l, len_preEs xs l]
end
mutual
theorem shape_iff (nv na : Nat) : ∀ (e : E) (d l : Nat), shapeB nv na d e = true ↔ ∀ p ∈ preE e l, p.1 < l + d ∧ nodeB nv na p.2 = true
  | ⟨k, v, ks⟩, 0, l => by
    rw [preE]
    constructor
    · intro h; simp [shapeB] at h
    · intro h; have := (h (l, ⟨k, v, ks⟩) (List.mem_cons_self ..)).1; omega
  | ⟨k, v, ks⟩, d + 1, l => by
    rw [preE, shapeB, Bool.and_eq_true, shapes_iff nv na ks d (l + 1)]
    constructor
    · rintro ⟨h1, h2⟩ p hp
      rcases List.mem_cons.1 hp with rfl | hp
      · exact ⟨by simp, h1⟩
      · have := h2 p hp; exact ⟨by omega, this.2⟩
    · intro h
      refine ⟨(h _ (List.mem_cons_self ..)).2, fun p hp => ?_⟩
      have := h p (List.mem_cons_of_mem _ hp)
      exact ⟨by omega, this.2⟩
theorem shapes_iff (nv na : Nat) : ∀ (es : List E) (d l : Nat), es.all (shapeB nv na d) = true ↔ ∀ p ∈ preEs es l, p.1 < l + d ∧ nodeB nv na p.2 = true
  | [], d, l => by rw [preEs]; simp
  | x :: xs, d, l => by
    rw [preEs, List.all_cons, Bool.and_eq_true, shape_iff nv na x d l, shapes_iff nv na xs d l]
    constructor
    · rintro ⟨h1, h2⟩ p hp
      rcases List.mem_append.1 hp with hp | hp
      · exact h1 p hp
      · exact h2 p hp
    · intro h
      exact ⟨fun p hp => h p (List.mem_append_left _ hp), fun p hp => h p (List.mem_append_right _ hp)⟩
end
/-- What the walk over an expression's nodes has found good so far. -/
def FitE (nv na : Nat) (L : List (Nat × E)) : Prop := L.length ≤ 15 ∧ ∀ p ∈ L, p.1 ≤ 5 ∧ nodeB nv na p.2 = true
theorem right_iff (nv na : Nat) (e : E) : rightB nv na e = true ↔ FitE nv na (preEs [e] 1) := by
  have e1 : preEs [e] 1 = preE e 1 := by rw [preEs, preEs, List.append_nil]
  unfold rightB FitE
  rw [e1, Bool.and_eq_true, shape_iff nv na e 5 1, decide_eq_true_iff, len_preE]
  constructor
  · rintro ⟨h1, h2⟩; exact ⟨h2, fun p hp => ⟨by have := (h1 p hp).1; omega, (h1 p hp).2⟩⟩
  · rintro ⟨h1, h2⟩; exact ⟨fun p hp => ⟨by have := (h2 p hp).1; omega, (h2 p hp).2⟩, h1⟩
theorem FitE.pre {nv na : Nat} {a b : List (Nat × E)} (h : FitE nv na b) (hp : a <+: b) : FitE nv na a := by
  obtain ⟨t, rfl⟩ := hp
  exact ⟨by have := h.1; rw [List.length_append] at this; omega, fun p hp => h.2 p (List.mem_append_left _ hp)⟩
theorem FitE.snoc {nv na : Nat} {a : List (Nat × E)} {x : Nat × E} (h : FitE nv na a) (h1 : a.length < 15) (h2 : x.1 ≤ 5) (h3 : nodeB nv na x.2 = true) : FitE nv na (a ++ [x]) :=
  ⟨by simp; omega, fun p hp => by rcases List.mem_append.1 hp with hp | hp; exact h.2 p hp; simp at hp; subst hp; exact ⟨h2, h3⟩⟩
theorem FitE.last {nv na : Nat} {a : List (Nat × E)} {x : Nat × E} (h : FitE nv na (a ++ [x])) : a.length < 15 ∧ x.1 ≤ 5 ∧ nodeB nv na x.2 = true :=
  ⟨by have := h.1; simp at this; omega, h.2 x (by simp)⟩

/-! ### Statements -/
def noneB (e : E) : Bool := decide (e.kind = 0) && decide (e.value = 0) && decide (e.kids.length = 0)
def blockK (s : S) : Bool := decide (s.kind = 3) || decide (s.kind = 4)
/-- The fields that the kind does not have are zero; the count of a repetition is right. -/
def partsB (s : S) : Bool :=
  if (!blockK s && (decide (0 < s.body.length) || decide (0 < s.els.length))) || (blockK s && !decide (s.target = 0)) then false
  else if s.kind = 4 then decide (s.els.length = 0) && decide (1 ≤ s.count) && decide (s.count ≤ 3) && noneB s.index && noneB s.value
  else decide (s.count = 0) && (decide (s.kind = 2) || noneB s.index)
/-- A statement is as its kind asks, what is in its blocks aside. -/
def nodeSB (nv na : Nat) (s : S) : Bool := partsB s &&
  (if s.kind = 1 ∨ s.kind = 5 then decide (0 ≤ s.target) && decide (s.target < nv) && rightB nv na s.value
   else if s.kind = 2 then decide (0 ≤ s.target) && decide (s.target < na) && rightB nv na s.index && atomB s.index && rightB nv na s.value
   else if s.kind = 3 then rightB nv na s.value
   else decide (s.kind = 4))
def stmtB (nv na : Nat) : Nat → S → Bool
  | 0, _ => false
  | d + 1, s => nodeSB nv na s && s.body.all (stmtB nv na d) && s.els.all (stmtB nv na d)
mutual
def cntS : S → Nat
  | ⟨_, _, _, _, _, b, e⟩ => 1 + cntSs b + cntSs e
def cntSs : List S → Nat
  | [] => 0
  | x :: xs => cntS x + cntSs xs
end
mutual
def preS : S → Nat → List (Nat × S)
  | ⟨k, t, i, v, c, b, e⟩, l => (l, ⟨k, t, i, v, c, b, e⟩) :: (preSs b (l + 1) ++ preSs e (l + 1))
def preSs : List S → Nat → List (Nat × S)
  | [], _ => []
  | x :: xs, l => preS x l ++ preSs xs l
end
theorem preS_eq (s : S) (l : Nat) : preS s l = (l, s) :: (preSs s.body (l + 1) ++ preSs s.els (l + 1)) := by cases s; rw [preS]
theorem cntS_eq (s : S) : cntS s = 1 + cntSs s.body + cntSs s.els := by cases s; rw [cntS]
mutual
theorem len_preS : ∀ (s : S) (l : Nat), (preS s l).length = cntS s
  | ⟨_, _, _, _, _, b, e⟩, l => by rw [preS, cntS, List.length_cons, List.length_append, len_preSs b (l + 1), len_preSs e (l + 1)]; omega
theorem len_preSs : ∀ (ss : List S) (l : Nat), (preSs ss l).length = cntSs ss
  | [], _ => by rw [preSs, cntSs]; rfl
  | x :: xs, l => by rw [preSs, cntSs, List.length_append, len_preS x l, len_preSs xs l]
end
mutual
theorem stmt_iff (nv na : Nat) : ∀ (s : S) (d l : Nat), stmtB nv na d s = true ↔ ∀ p ∈ preS s l, p.1 < l + d ∧ nodeSB nv na p.2 = true
  | ⟨k, t, i, v, c, b, e⟩, 0, l => by
    rw [preS]
    constructor
    · intro h; simp [stmtB] at h
    · intro h; have := (h (l, ⟨k, t, i, v, c, b, e⟩) (List.mem_cons_self ..)).1; omega
  | ⟨k, t, i, v, c, b, e⟩, d + 1, l => by
    rw [preS, stmtB, Bool.and_eq_true, Bool.and_eq_true, block_iff nv na b d (l + 1), block_iff nv na e d (l + 1)]
    constructor
    · rintro ⟨⟨h1, h2⟩, h3⟩ p hp
      rcases List.mem_cons.1 hp with rfl | hp
      · exact ⟨by simp, h1⟩
      · rcases List.mem_append.1 hp with hp | hp
        · have := h2 p hp; exact ⟨by omega, this.2⟩
        · have := h3 p hp; exact ⟨by omega, this.2⟩
    · intro h
      refine ⟨⟨(h _ (List.mem_cons_self ..)).2, fun p hp => ?_⟩, fun p hp => ?_⟩
      · have := h p (List.mem_cons_of_mem _ (List.mem_append_left _ hp))
        exact ⟨by omega, this.2⟩
      · have := h p (List.mem_cons_of_mem _ (List.mem_append_right _ hp))
        exact ⟨by omega, this.2⟩
theorem block_iff (nv na : Nat) : ∀ (ss : List S) (d l : Nat), ss.all (stmtB nv na d) = true ↔ ∀ p ∈ preSs ss l, p.1 < l + d ∧ nodeSB nv na p.2 = true
  | [], d, l => by rw [preSs]; simp
  | x :: xs, d, l => by
    rw [preSs, List.all_cons, Bool.and_eq_true, stmt_iff nv na x d l, block_iff nv na xs d l]
    constructor
    · rintro ⟨h1, h2⟩ p hp
      rcases List.mem_append.1 hp with hp | hp
      · exact h1 p hp
      · exact h2 p hp
    · intro h
      exact ⟨fun p hp => h p (List.mem_append_left _ hp), fun p hp => h p (List.mem_append_right _ hp)⟩
end
def bodyB (nv na : Nat) (ss : List S) : Bool := ss.all (stmtB nv na 5) && decide (cntSs ss ≤ 60)
def FitS (nv na : Nat) (L : List (Nat × S)) : Prop := L.length ≤ 60 ∧ ∀ p ∈ L, p.1 ≤ 5 ∧ nodeSB nv na p.2 = true
theorem body_iff (nv na : Nat) (ss : List S) : bodyB nv na ss = true ↔ FitS nv na (preSs ss 1) := by
  unfold bodyB FitS
  rw [Bool.and_eq_true, block_iff nv na ss 5 1, decide_eq_true_iff, len_preSs]
  constructor
  · rintro ⟨h1, h2⟩; exact ⟨h2, fun p hp => ⟨by have := (h1 p hp).1; omega, (h1 p hp).2⟩⟩
  · rintro ⟨h1, h2⟩; exact ⟨fun p hp => ⟨by have := (h2 p hp).1; omega, (h2 p hp).2⟩, h1⟩
theorem FitS.pre {nv na : Nat} {a b : List (Nat × S)} (h : FitS nv na b) (hp : a <+: b) : FitS nv na a := by
  obtain ⟨t, rfl⟩ := hp
  exact ⟨by have := h.1; rw [List.length_append] at this; omega, fun p hp => h.2 p (List.mem_append_left _ hp)⟩
theorem FitS.snoc {nv na : Nat} {a : List (Nat × S)} {x : Nat × S} (h : FitS nv na a) (h1 : a.length < 60) (h2 : x.1 ≤ 5) (h3 : nodeSB nv na x.2 = true) : FitS nv na (a ++ [x]) :=
  ⟨by simp; omega, fun p hp => by rcases List.mem_append.1 hp with hp | hp; exact h.2 p hp; simp at hp; subst hp; exact ⟨h2, h3⟩⟩
theorem FitS.last {nv na : Nat} {a : List (Nat × S)} {x : Nat × S} (h : FitS nv na (a ++ [x])) : a.length < 60 ∧ x.1 ≤ 5 ∧ nodeSB nv na x.2 = true :=
  ⟨by have := h.1; simp at this; omega, h.2 x (by simp)⟩

/-! ### Programs -/
def headsB (p : Pg) : Bool := p.vars.all lokB && p.arrs.all lokB && decide (1 ≤ p.vars.length) && decide (p.vars.length ≤ 12) && decide (p.arrs.length ≤ 2)
def exprB (p : Pg) (e : E) : Bool := headsB p && rightB p.vars.length p.arrs.length e
def progB (p : Pg) : Bool := headsB p && bodyB p.vars.length p.arrs.length p.body
def countB (p : Pg) : Int := if progB p then cntSs p.body else 0

theorem arity_le (k : Int) : arity k ≤ 3 := by unfold arity; split <;> (try split) <;> (try split) <;> (try split) <;> omega
theorem cntEs_mem {es : List E} {m : Nat} (h : ∀ x ∈ es, cntE x ≤ m) : cntEs es ≤ es.length * m := by
  induction es with
  | nil => simp [cntEs]
  | cons x xs ih =>
    have h1 := h x (List.mem_cons_self ..)
    have h2 := ih fun y hy => h y (List.mem_cons_of_mem _ hy)
    rw [cntEs, List.length_cons, Nat.succ_mul]
    omega
theorem shape_cnt (nv na : Nat) : ∀ (d : Nat) (e : E), shapeB nv na d e = true → cntE e ≤ 4 ^ d
  | 0, _, h => by simp [shapeB] at h
  | d + 1, e, h => by
    rw [shapeB, Bool.and_eq_true] at h
    have hl : e.kids.length ≤ 3 := by
      have h1 := h.1
      unfold nodeB at h1
      simp only [Bool.and_eq_true, decide_eq_true_iff] at h1
      have := arity_le e.kind
      omega
    have h2 := cntEs_mem (es := e.kids) (m := 4 ^ d) fun x hx => shape_cnt nv na d x (List.all_eq_true.1 h.2 x hx)
    have h3 : e.kids.length * 4 ^ d ≤ 3 * 4 ^ d := Nat.mul_le_mul_right _ hl
    have h4 : 1 ≤ 4 ^ d := Nat.one_le_pow _ _ (by omega)
    rw [cntE_eq, Nat.pow_succ]
    omega
theorem cntEs_snoc (es : List E) (k : Nat) (x : E) (h : es[k]? = some x) : cntEs (es.take (k + 1)) = cntEs (es.take k) + cntE x := by
  induction es generalizing k with
  | nil => simp at h
  | cons y ys ih =>
    cases k with
    | zero => simp at h; subst h; simp [cntEs]
    | succ k => simp at h; simp only [List.take_succ_cons, cntEs]; rw [ih k h]; omega
theorem cntEs_take (es : List E) (k : Nat) : cntEs (es.take k) ≤ cntEs es := by
  induction es generalizing k with
  | nil => simp [cntEs]
  | cons y ys ih =>
    cases k with
    | zero => simp [cntEs]
    | succ k => simp only [List.take_succ_cons, cntEs]; have := ih k; omega
theorem cntSs_take (es : List S) (k : Nat) : cntSs (es.take k) ≤ cntSs es := by
  induction es generalizing k with
  | nil => simp [cntSs]
  | cons y ys ih =>
    cases k with
    | zero => simp [cntSs]
    | succ k => simp only [List.take_succ_cons, cntSs]; have := ih k; omega

theorem preEs_app (a b : List E) (l : Nat) : preEs (a ++ b) l = preEs a l ++ preEs b l := by
  induction a with
  | nil => simp [preEs]
  | cons x xs ih => simp [preEs, ih]
theorem take_snoc' {α : Type} {es : List α} {k : Nat} {x : α} (h : es[k]? = some x) : es.take (k + 1) = es.take k ++ [x] := by
  obtain ⟨hk, rfl⟩ := List.getElem?_eq_some_iff.1 h
  rw [List.take_succ_eq_append_getElem hk]
theorem preEs_snoc (es : List E) (k : Nat) (x : E) (l : Nat) (h : es[k]? = some x) : preEs (es.take (k + 1)) l = preEs (es.take k) l ++ ((l, x) :: preEs x.kids (l + 1)) := by
  rw [take_snoc' h, preEs_app]
  congr 1
  rw [preEs, preEs, List.append_nil, preE_eq]
theorem preEs_take_pre (es : List E) (k : Nat) (l : Nat) : preEs (es.take k) l <+: preEs es l := by
  refine ⟨preEs (es.drop k) l, ?_⟩
  rw [← preEs_app, List.take_append_drop]
theorem preSs_app (a b : List S) (l : Nat) : preSs (a ++ b) l = preSs a l ++ preSs b l := by
  induction a with
  | nil => simp [preSs]
  | cons x xs ih => simp [preSs, ih]
theorem preSs_snoc (es : List S) (k : Nat) (x : S) (l : Nat) (h : es[k]? = some x) : preSs (es.take (k + 1)) l = preSs (es.take k) l ++ ((l, x) :: (preSs x.body (l + 1) ++ preSs x.els (l + 1))) := by
  rw [take_snoc' h, preSs_app]
  congr 1
  rw [preSs, preSs, List.append_nil, preS_eq]
theorem preSs_take_pre (es : List S) (k : Nat) (l : Nat) : preSs (es.take k) l <+: preSs es l := by
  refine ⟨preSs (es.drop k) l, ?_⟩
  rw [← preSs_app, List.take_append_drop]

end Go.Proofs.YtbifbmpflhdijaaDoor
