/- A map from pointers to pointers, in plain words: what a look-up and a store of the model do at pointers into blocks of plain cells. -/
import Derived.Test.YtjmfnpljkiobkaaTreeS
import Derived.LaidEql
import Derived.Maps.OwnOps
namespace Go.Proofs.Ytjmfnpljkiobkaa
open Go.RowKit Go.ChangeMaps
set_option linter.unusedVariables false

/-- The address lies in a row of expressions. -/
def PlA (w : World) (a : Addr) : Prop := ∃ (cs : Array Value) (_ : Unit), w.heap[a.block]? = some (.cells cs 38 (0, 0))
/-- The first entry with this key. -/
def lkE : List MapEntry → Addr → Option Addr
  | [], _ => none
  | e :: es, a => match e.key, e.val with
    | .pointer (some k), .pointer (some v) => if k = a then some v else lkE es a
    | _, _ => none
/-- An entry from a pointer to a pointer. -/
def EntP (w : World) (e : MapEntry) : Prop := ∃ a b, e.key = .pointer (some a) ∧ e.val = .pointer (some b) ∧ PlA w a ∧ PlA w b
/-- Block M is a map that answers as f. -/
def MapF (w : World) (M : Nat) (f : Addr → Option Addr) : Prop := ∃ es clock, w.heap[M]? = some (.map es clock) ∧ (∀ e ∈ es.toList, EntP w e) ∧ f = lkE es.toList

theorem EntP.eq {w : World} {e : MapEntry} (h : EntP w e) : ∃ a b c, e = ⟨.pointer (some a), .pointer (some b), c⟩ ∧ PlA w a ∧ PlA w b := by
  obtain ⟨k, v, c⟩ := e
  obtain ⟨a, b, h1, h2, h3, h4⟩ := h
  exact ⟨a, b, c, by cases h1; cases h2; rfl, h3, h4⟩

section
variable {P : Program} {w : World}
theorem run_equalIn_ptr (d : Nat) {k el : TypeId} {j : TypeInfo} (hk : P.underlying k = some (.pointer el)) (hj : P.info? el = some j) (hz : j.size ≠ 0) {a b : Addr} (ha : PlA w a) (hb : PlA w b) :
    (Op.equalIn (d + 1) k (.pointer (some a)) (.pointer (some b))).run P w = .ok (decide (a = b)) w := by
  obtain ⟨ca, ta, ha⟩ := ha
  obtain ⟨cb, tb, hb⟩ := hb
  by_cases h : a = b
  · subst h
    simp [Op.equalIn, run_underlying hk, typeInfo, sizeOf, hj, run_sameAddr_same]
  · rw [decide_eq_false h]
    simp [Op.equalIn, run_underlying hk, typeInfo, sizeOf, hj, hz, run_sameAddr_other w h ha hb]
theorem run_equal_ptr {k el : TypeId} {j : TypeInfo} (hk : P.underlying k = some (.pointer el)) (hj : P.info? el = some j) (hz : j.size ≠ 0) {a b : Addr} (ha : PlA w a) (hb : PlA w b) :
    (Op.equal k (.pointer (some a)) (.pointer (some b))).run P w = .ok (decide (a = b)) w := run_equalIn_ptr 9999 hk hj hz ha hb

theorem run_findAsking {k el : TypeId} {j : TypeInfo} (hk : P.underlying k = some (.pointer el)) (hj : P.info? el = some j) (hz : j.size ≠ 0) {a : Addr} (ha : PlA w a) : ∀ (es : List MapEntry) (i : Nat), (∀ e ∈ es, EntP w e) →
    ((lkE es a = none ∧ (Instr.findAsking k (.pointer (some a)) es i).run P w = .ok none w) ∨
      ∃ n b c, lkE es a = some b ∧ es[n]? = some ⟨.pointer (some a), .pointer (some b), c⟩ ∧ (∀ m, m < n → ∀ x, es[m]? = some x → x.key ≠ .pointer (some a)) ∧ (Instr.findAsking k (.pointer (some a)) es i).run P w = .ok (some (i + n, .pointer (some b))) w)
  | [], i, _ => .inl ⟨rfl, by simp [Instr.findAsking]⟩
  | e :: es, i, h => by
    obtain ⟨x, y, c, rfl, hx, hy⟩ := (h e (by simp)).eq
    have he := run_equal_ptr hk hj hz ha hx
    by_cases hxa : x = a
    · subst hxa
      refine .inr ⟨0, y, c, by simp [lkE], rfl, fun m hm => absurd hm (Nat.not_lt_zero _), ?_⟩
      rw [decide_eq_true rfl] at he
      simp [Instr.findAsking, he]
    · rw [decide_eq_false fun e => hxa e.symm] at he
      have hl : lkE (⟨.pointer (some x), .pointer (some y), c⟩ :: es) a = lkE es a := by simp [lkE, hxa]
      rcases run_findAsking hk hj hz ha es (i + 1) (fun e he' => h e (by simp [he'])) with ⟨h1, h2⟩ | ⟨n, b, c', h1, h2, h3, h4⟩
      · exact .inl ⟨by rw [hl, h1], by simp [Instr.findAsking, he, h2]⟩
      · refine .inr ⟨n + 1, b, c', by rw [hl, h1], by simpa using h2, fun m hm z hz' => ?_, by simp [Instr.findAsking, he, h4]; omega⟩
        cases m with
        | zero => simp at hz'; subst hz'; intro e; apply hxa; simpa using e
        | succ m => exact h3 m (by omega) z (by simpa using hz')

theorem run_findKey {k el : TypeId} {j : TypeInfo} (hk : P.underlying k = some (.pointer el)) (hj : P.info? el = some j) (hz : j.size ≠ 0) {a : Addr} (ha : PlA w a) (es : List MapEntry) (h : ∀ e ∈ es, EntP w e) :
    ((lkE es a = none ∧ (Instr.findKey k (.pointer (some a)) es).run P w = .ok none w) ∨
      ∃ n b c, lkE es a = some b ∧ es[n]? = some ⟨.pointer (some a), .pointer (some b), c⟩ ∧ (∀ m, m < n → ∀ x, es[m]? = some x → x.key ≠ .pointer (some a)) ∧ (Instr.findKey k (.pointer (some a)) es).run P w = .ok (some (n, .pointer (some b))) w) := by
  have e0 := run_findAsking hk hj hz ha es 0 h
  cases es with
  | nil => exact .inl ⟨rfl, by simp [Instr.findKey, Instr.findNow, run_underlying hk]⟩
  | cons x xs =>
    have hn : ∀ kind, Instr.findNow kind (.pointer (some a)) (x :: xs) 0 = none := fun kind => by
      obtain ⟨y, z, c, rfl, _, _⟩ := (h x (by simp)).eq
      cases kind <;> simp [Instr.findNow, Instr.sameNow]
    have hr : (Instr.findKey k (.pointer (some a)) (x :: xs)).run P w = (Instr.findAsking k (.pointer (some a)) (x :: xs)).run P w := by
      simp [Instr.findKey, run_underlying hk, hn]
    rw [hr]
    rcases e0 with h1 | ⟨n, b, c, h1, h2, h3, h4⟩
    · exact .inl h1
    · exact .inr ⟨n, b, c, h1, h2, h3, by rw [h4]; simp⟩

theorem run_checkKeyIn (n : Nat) {k el : TypeId} (hk : P.underlying k = some (.pointer el)) (a : Addr) (b : Bool) : (Instr.checkKey b (n + 1) k (.pointer (some a))).run P w = .ok () w := by
  simp [Instr.checkKey, run_underlying hk]
theorem run_checkKeyP {k el : TypeId} (hk : P.underlying k = some (.pointer el)) (a : Addr) (b : Bool) : (Instr.checkKey b 10000 k (.pointer (some a))).run P w = .ok () w := run_checkKeyIn 9999 hk a b

/-- The look-up 'v, ok := m[p]'. -/
theorem run_lookupP {t k el : TypeId} {j : TypeInfo} (ht : P.underlying t = some (.map k k)) (hk : P.underlying k = some (.pointer el)) (hj : P.info? el = some j) (hz : j.size ≠ 0) (hzero : (zeroValue k).run P w = .ok (.pointer none) w)
    {M : Nat} {f : Addr → Option Addr} (h : MapF w M f) {a : Addr} (ha : PlA w a) :
    (Instr.lookup t (.map (some M)) (.pointer (some a)) true).run P w = .ok (match f a with | some b => .tuple #[.pointer (some b), .bool true] | none => .tuple #[.pointer none, .bool false]) w := by
  obtain ⟨es, clock, hb, hE, rfl⟩ := h
  have hck := fun b => run_checkKeyP (P := P) (w := w) hk a b
  rcases run_findKey hk hj hz ha es.toList hE with ⟨h1, h2⟩ | ⟨n, b, c, h1, h2, h3, h4⟩
  · rw [h1]
    simp [Instr.lookup, run_underlying ht, MapKept.run_getObj_map hb, hck, h2, hzero, Result.andThen]
  · rw [h1]
    simp [Instr.lookup, run_underlying ht, MapKept.run_getObj_map hb, hck, h4, Result.andThen]

theorem lkE_snoc {w : World} {a b : Addr} {c : Nat} : ∀ (es : List MapEntry), (∀ e ∈ es, EntP w e) → lkE es a = none → lkE (es ++ [⟨.pointer (some a), .pointer (some b), c⟩]) = fun p => if p = a then some b else lkE es p
  | [], _, _ => by
    funext p
    by_cases h : p = a
    · subst h; simp [lkE]
    · have h' : ¬ a = p := fun e => h e.symm
      simp [lkE, h, h']
  | e :: es, h, hn => by
    obtain ⟨x, y, c', rfl, _, _⟩ := (h e (by simp)).eq
    by_cases hx : x = a
    · subst hx; simp [lkE] at hn
    have hn' : lkE es a = none := by simpa [lkE, hx] using hn
    have ih := lkE_snoc (b := b) (c := c) es (fun e he => h e (by simp [he])) hn'
    funext p
    have ih' := congrFun ih p
    by_cases hp : x = p
    · subst hp
      simp [lkE, hx]
    · simp only [List.cons_append, lkE, if_neg hp]
      exact ih'
theorem lkE_modify {w : World} {a b b' : Addr} {c : Nat} : ∀ (es : List MapEntry) (n : Nat), (∀ e ∈ es, EntP w e) → es[n]? = some ⟨.pointer (some a), .pointer (some b'), c⟩ → (∀ m, m < n → ∀ x, es[m]? = some x → x.key ≠ .pointer (some a)) →
    lkE (es.modify n fun e => { e with key := .pointer (some a), val := .pointer (some b) }) = fun p => if p = a then some b else lkE es p
  | [], n, _, hn, _ => by simp at hn
  | e :: es, 0, h, hn, _ => by
    simp at hn
    subst hn
    funext p
    by_cases hp : p = a
    · subst hp; simp [lkE]
    · have h' : ¬ a = p := fun e => hp e.symm
      simp [lkE, hp, h']
  | e :: es, n + 1, h, hn, hb => by
    obtain ⟨x, y, c', rfl, _, _⟩ := (h e (by simp)).eq
    have hx : x ≠ a := fun e => hb 0 (by omega) _ rfl (by rw [e])
    have ih := lkE_modify (b := b) es n (fun e he => h e (by simp [he])) (by simpa using hn) fun m hm z hz => hb (m + 1) (by omega) z (by simpa using hz)
    funext p
    have ih' := congrFun ih p
    by_cases hp : x = p
    · subst hp
      simp [lkE, hx]
    · simp only [List.modify_succ_cons, lkE, if_neg hp]
      exact ih'

/-- The store 'm[p] = q'. -/
theorem run_updateP {t k el : TypeId} {j : TypeInfo} (ht : P.underlying t = some (.map k k)) (hk : P.underlying k = some (.pointer el)) (hj : P.info? el = some j) (hz : j.size ≠ 0)
    {M : Nat} {f : Addr → Option Addr} (h : MapF w M f) {a b : Addr} (ha : PlA w a) (hb' : PlA w b) :
    ∃ w', (Instr.mapUpdate t (.map (some M)) (.pointer (some a)) (.pointer (some b))).run P w = .ok () w' ∧ MapF w' M (fun p => if p = a then some b else f p) ∧ ∃ o, w' = setBlock w M o := by
  obtain ⟨es, clock, hb, hE, rfl⟩ := h
  have hck := run_checkKeyP (P := P) (w := w) hk a false
  have hst : ∀ (o : Obj) (x : Addr), PlA w x → PlA (setBlock w M o) x := fun o x hx => by
    obtain ⟨cs, T, hx⟩ := hx
    refine ⟨cs, T, (heap_setBlock_other hb o ?_).trans hx⟩
    intro e
    rw [e, hb] at hx
    cases hx
  have hse : ∀ (o : Obj) (e : MapEntry), EntP w e → EntP (setBlock w M o) e := fun o e he => by
    obtain ⟨x, y, h1, h2, h3, h4⟩ := he
    exact ⟨x, y, h1, h2, hst o x h3, hst o y h4⟩
  rcases run_findKey hk hj hz ha es.toList hE with ⟨h1, h2⟩ | ⟨n, b', c, h1, h2, h3, h4⟩
  · refine ⟨setBlock w M (.map (es.push ⟨.pointer (some a), .pointer (some b), clock⟩) (clock + 1)), ?_, ⟨_, _, heap_setBlock_same hb _, ?_, ?_⟩, _, rfl⟩
    · simp [Instr.mapUpdate, run_underlying ht, MapKept.run_getObj_map hb, hck, h2, MapKept.run_setObj_map _ hb, Result.andThen, setBlock]
    · intro e he
      rw [Array.toList_push] at he
      rcases List.mem_append.1 he with he | he
      · exact hse _ e (hE e he)
      · rw [List.mem_singleton] at he
        subst he
        exact ⟨a, b, rfl, rfl, hst _ a ha, hst _ b hb'⟩
    · rw [Array.toList_push]
      exact (lkE_snoc es.toList hE h1).symm
  · have h2' : es[n]? = some ⟨.pointer (some a), .pointer (some b'), c⟩ := by simpa using h2
    refine ⟨setBlock w M (.map (es.modify n fun e => { e with key := .pointer (some a), val := .pointer (some b) }) clock), ?_, ⟨_, _, heap_setBlock_same hb _, ?_, ?_⟩, _, rfl⟩
    · simp [Instr.mapUpdate, run_underlying ht, MapKept.run_getObj_map hb, hck, h4, MapKept.run_setObj_map _ hb, Result.andThen, setBlock, Instr.keyThatStays, Instr.sameBits, h2']
    · intro e he
      rw [Array.toList_modify] at he
      obtain ⟨i, hi⟩ := List.mem_iff_getElem?.1 he
      rw [List.getElem?_modify] at hi
      by_cases hin : n = i
      · subst hin
        rw [h2] at hi
        simp at hi
        subst hi
        exact ⟨a, b, rfl, rfl, hst _ a ha, hst _ b hb'⟩
      · simp only [if_neg hin, Option.map_eq_map, Option.map_id'] at hi
        exact hse _ e (hE e (List.mem_of_getElem? hi))
    · rw [Array.toList_modify]
      exact (lkE_modify es.toList n hE h2 h3).symm
end

end Go.Proofs.Ytjmfnpljkiobkaa
