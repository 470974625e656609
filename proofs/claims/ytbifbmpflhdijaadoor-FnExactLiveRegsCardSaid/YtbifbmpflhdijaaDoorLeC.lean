/- The model's l12Kind and l12Regs, walked: the registers that an instruction reads and writes, as two new rows. -/
import Derived.Test.YtbifbmpflhdijaaDoorLvP
import Derived.Test.YtbifbmpflhdijaaDoorAgI
import Derived.StillTailTactics
import Derived.Deep.CutRange
import Derived.Test.YtbifbmpflhdijaaDoorCvS
import Derived.Test.YtbifbmpflhdijaaDoorBlS
import Derived.Test.YtbifbmpflhdijaaDoorAppA
import Derived.Test.YtbifbmpflhdijaaDoorLeB
import Derived.Test.YtbifbmpflhdijaaDoorRcN
import Derived.Test.YtbifbmpflhdijaaDoorBb
import Derived.BigQuiet
import Derived.WalkSmall
import Derived.Deep.RegionWith
import Derived.Test.YtbifbmpflhdijaaDoorTnO
namespace Go.Proofs.YtbifbmpflhdijaaDoor
open Go.RowKit
set_option linter.unusedVariables false

/-- What the fields of each operation are: 0 no register, 1 read, 2 written, 3 both. -/
def kkL : List (List Nat) := [[], [2, 0], [2, 0], [0, 1], [2, 0, 1], [0, 1, 1], [2, 0, 1, 1], [2, 1, 1, 1], [0], [1, 0], [3, 0], [1], [], []]
def kkAt (op j : Nat) : Nat := (kkL.getD op []).getD j 0
def kkC (k : Nat) : UInt8 := if k = 1 then 49 else if k = 2 then 50 else if k = 3 then 51 else 48
def kbB (op : Nat) : ByteArray := ⟨((kkL.getD op []).map kkC).toArray⟩
theorem kbB_size (op : Nat) : (kbB op).size = (kkL.getD op []).length := by show ((kkL.getD op []).map kkC).toArray.size = _; simp
theorem kbB_at (op j : Nat) (h : j < (kbB op).size) : (kbB op)[j] = kkC (kkAt op j) := by
  have hj : j < (kkL.getD op []).length := by rw [← kbB_size]; exact h
  show ((kkL.getD op []).map kkC).toArray[j]'(by simpa using hj) = _
  have e : kkAt op j = (kkL.getD op [])[j] := by
    unfold kkAt
    rw [List.getD_eq_getElem?_getD (l := kkL.getD op []), List.getElem?_eq_getElem hj]; rfl
  rw [e]
  simp
theorem kkL_len (op : Nat) : (kkL.getD op []).length ≤ 4 := by
  have hall : ∀ l ∈ kkL, l.length ≤ 4 := by decide
  exact getD_all (fun l : List Nat => l.length ≤ 4) kkL [] (by simp) hall op
theorem kkAt_le (op j : Nat) : kkAt op j ≤ 3 := by
  have hall : ∀ l ∈ kkL, ∀ x ∈ l, x ≤ 3 := by decide
  exact getD_all (fun x => x ≤ 3) _ 0 (by omega) (getD_all (fun l => ∀ x ∈ l, x ≤ 3) kkL [] (by simp) hall op) j

set_option maxHeartbeats 4000000 in
theorem l12Kind_one (op : Nat) (h : op ≤ 13) (w : World) :
    Calls Tryd.prog 76 #[.int .i64 op] w fun e w' => e = .returned (.string (kbB op)) ∧ Below w.heap.size w w' := by
  obtain rfl | rfl | rfl | rfl | rfl | rfl | rfl | rfl | rfl | rfl | rfl | rfl | rfl | rfl : op = 0 ∨ op = 1 ∨ op = 2 ∨ op = 3 ∨ op = 4 ∨ op = 5 ∨ op = 6 ∨ op = 7 ∨ op = 8 ∨ op = 9 ∨ op = 10 ∨ op = 11 ∨ op = 12 ∨ op = 13 := by omega
  all_goals
    go_enter Tryd.func76, Tryd.ntmps76
    go_wp2_with fail
    go_ret
    exact ⟨rfl, (Below.refl _ _).alloc (Nat.le_refl _) _⟩

/-- The masks behind the first j fields. -/
def rK (x : Ins) : Nat → Nat
  | 0 => 0
  | j + 1 => if kkAt x.op.toNat j = 1 ∨ kkAt x.op.toNat j = 3 then sb (rK x j) (x.part j).toNat true else rK x j
def wK (x : Ins) : Nat → Nat
  | 0 => 0
  | j + 1 => if kkAt x.op.toNat j = 2 ∨ kkAt x.op.toNat j = 3 then sb (wK x j) (x.part j).toNat true else wK x j
theorem op_cases {x : Ins} (h1 : 1 ≤ x.op) (h2 : x.op ≤ 13) : x.op = 1 ∨ x.op = 2 ∨ x.op = 3 ∨ x.op = 4 ∨ x.op = 5 ∨ x.op = 6 ∨ x.op = 7 ∨ x.op = 8 ∨ x.op = 9 ∨ x.op = 10 ∨ x.op = 11 ∨ x.op = 12 ∨ x.op = 13 := by omega
theorem rK_all {x : Ins} (h1 : 1 ≤ x.op) (h2 : x.op ≤ 13) : rK x (kkL.getD x.op.toNat []).length = rdM x := by
  rcases op_cases h1 h2 with e | e | e | e | e | e | e | e | e | e | e | e | e <;>
    simp [e, rK, rdM, rdL, kkAt, kkL, setM, Ins.part]
theorem wK_all {x : Ins} (h1 : 1 ≤ x.op) (h2 : x.op ≤ 13) : wK x (kkL.getD x.op.toNat []).length = wrM x := by
  rcases op_cases h1 h2 with e | e | e | e | e | e | e | e | e | e | e | e | e <;>
    simp [e, wK, wrM, wrL, kkAt, kkL, setM, Ins.part]
theorem wrA_of {x : Ins} (h : x.op = 1 ∨ x.op = 11 ∨ x.op = 2 ∨ x.op = 4 ∨ x.op = 6 ∨ x.op = 7) : wrA x = true := by
  unfold wrA
  rcases h with e | e | e | e | e | e <;> rw [e] <;> rfl
theorem part_reg {nv na : Nat} {x : Ins} (h : InsT nv na x) (h1 : 1 ≤ x.op) (h2 : x.op ≤ 13) (j : Nat) (hk : kkAt x.op.toNat j ≠ 0) : 0 ≤ x.part j ∧ x.part j < 14 := by
  have hj : j < 4 := Classical.byContradiction fun hn => hk (by
    unfold kkAt
    rw [List.getD_eq_getElem?_getD (l := kkL.getD x.op.toNat []), List.getElem?_eq_none (by have := kkL_len x.op.toNat; omega)]; rfl)
  have ra := h.ra
  have rb := h.rb
  have rc := h.rc
  have rd := h.rd
  rcases op_cases h1 h2 with e | e | e | e | e | e | e | e | e | e | e | e | e
  all_goals
    have wa := @wrA_of x
    match j, hj with
    | 0, _ | 1, _ | 2, _ | 3, _ =>
      simp [e, kkAt, kkL] at hk <;> simp only [Ins.part] <;> first
        | exact ra (.inl (wa (by omega)))
        | exact ra (by omega)
        | exact rb (by omega)
        | exact rc (by omega)
        | exact rd (by omega)
theorem rK_lt {nv na : Nat} {x : Ins} (h : InsT nv na x) (h1 : 1 ≤ x.op) (h2 : x.op ≤ 13) : ∀ j, rK x j < 16384
  | 0 => by simp [rK]
  | j + 1 => by
    unfold rK
    split
    · rename_i e
      have := part_reg h h1 h2 j (by omega)
      exact sb_lt14 (rK_lt h h1 h2 j) (by omega)
    · exact rK_lt h h1 h2 j
theorem wK_lt {nv na : Nat} {x : Ins} (h : InsT nv na x) (h1 : 1 ≤ x.op) (h2 : x.op ≤ 13) : ∀ j, wK x j < 16384
  | 0 => by simp [wK]
  | j + 1 => by
    unfold wK
    split
    · rename_i e
      have := part_reg h h1 h2 j (by omega)
      exact sb_lt14 (wK_lt h h1 h2 j) (by omega)
    · exact wK_lt h h1 h2 j
theorem flB_set {m r : Nat} {v : Bool} (hm : m < 16384) (hr : r < 14) : (flB m).set r v = flB (sb m r v) := by
  refine flB_ext (by rw [List.length_set, flB_len]) fun i hi => ?_
  by_cases e : i = r
  · subst e
    rw [List.getElem?_set_self (by rw [flB_len]; exact hr), sb_bit (by omega) (by omega), if_pos rfl]
  · rw [List.getElem?_set_ne (fun e' => e e'.symm), flB_at m hi, sb_bit (by omega) (by omega), if_neg e]
theorem flB_0 : flB 0 = List.replicate 14 false := by decide

/-- A row of 14 flags of one's own at the block b. -/
def FlO (w : World) (b m : Nat) : Prop := w.ownsRow b 4 1 (.slice (some ⟨b, 0, none⟩) 14 14) 14 ((flB m).map Value.bool)
theorem FlO.get {w : World} {b m : Nat} (h : FlO w b m) {r : Nat} (hr : r < 14) : w.cell? ⟨b, r, none⟩ = some (.bool (m.testBit r)) := by
  rw [World.ownsRow.cellAt h r hr, List.getElem?_map, flB_at m hr]; rfl
theorem FlO.set {w : World} {b m : Nat} (h : FlO w b m) (hm : m < 16384) {r : Nat} (hr : r < 14) : FlO (w.setCell ⟨b, r, none⟩ (.bool true)) b (sb m r true) := by
  have h1 := (World.ownsRow.stored h r (.bool true)).1
  rw [← List.map_set, flB_set hm hr] at h1
  exact h1
theorem FlO.far {w w' : World} {b m : Nat} (h : FlO w b m) (hs : b < w.heap.size → w'.heap[b]? = w.heap[b]?) : FlO w' b m := by
  refine ⟨h.1, ?_⟩
  rcases h.2 with ⟨e, _⟩ | ⟨g, cp, cur, e, e2, e3, e4⟩
  · cases e
  · injection e with e5 e6 e7
    injection e5 with e5
    injection e5 with e5
    subst e5
    exact .inr ⟨_, cp, cur, by rw [e7], e2, (hs (Array.getElem?_eq_some_iff.1 e3).1).trans e3, e4⟩
theorem FlO.lt {w : World} {b m : Nat} (h : FlO w b m) : b < w.heap.size := (World.ownsRow.lt h b rfl).2
theorem FlO.bat {w : World} {b m : Nat} (h : FlO w b m) : BAt w (fun j => b ≤ j ∧ j < w.heap.size) (flB m) (some ⟨b, 0, none⟩) := by
  have h1 : OwnB w b (.slice (some ⟨b, 0, none⟩) 14 14) (flB m) := by unfold OwnB; rw [flB_len]; exact h
  exact h1.bat.2.2.2

/-- Two new rows: the registers that are read, and those that are written. -/
def RegN (x : Ins) (w : World) (e : Ending) (w' : World) : Prop := ∃ a b, e = .returned (.tuple #[.slice (some ⟨a, 0, none⟩) 14 14, .slice (some ⟨b, 0, none⟩) 14 14]) ∧ FlO w' a (rdM x) ∧ FlO w' b (wrM x) ∧ w.heap.size ≤ a ∧ w.heap.size ≤ b ∧ Below w.heap.size w w'

/-- The state of the loop. -/
def RgL (x : Ins) (W0 : World) (P R pb sl : Nat) (i : Value) (wr : World) : Prop := ∃ j : Nat, j ≤ sl ∧ i = .int .i64 (j : Int) ∧ FlO wr P (rK x j) ∧ FlO wr R (wK x j) ∧ RowP wr pb x ∧ Below P W0 wr

set_option maxRecDepth 100000 in
set_option maxHeartbeats 8000000 in
/-- **spec.l12Regs.** -/
theorem l12Regs_one {nv na : Nat} (x : Ins) (w : World) (hx : InsT nv na x) (h1 : 1 ≤ x.op) (h2 : x.op ≤ 13) :
    Calls Tryd.prog 71 #[aggI x] w (RegN x w) := by
  obtain ⟨b0, hbi, hbz0, hbz1, hbz2⟩ := info_parts Tryd.infoB
  obtain ⟨W, hW⟩ : ∃ W, w.alloc (.cells (arrI x) 50) = W := ⟨_, rfl⟩
  have hB : Below w.heap.size w W := by rw [← hW]; exact (Below.refl _ w).alloc (Nat.le_refl _) _
  have hbx : W.heap[w.heap.size]? = some (.cells (arrI x) 50 (0, 0)) := by rw [← hW]; exact heap_alloc_new w _
  have HX := Lib.hid hx
  have H1 := Lib.hid h1
  have H2 := Lib.hid h2
  have HW := Lib.hid hW
  have HB := Lib.hid hB
  have HBX := Lib.hid hbx
  clear hx hW hB hbx
  unfold arrI at HW
  obtain ⟨op, hop⟩ : ∃ op : Nat, x.op = op := ⟨x.op.toNat, by omega⟩
  have HOP := Lib.hid hop
  have HOPN : Hid (x.op.toNat = op) := by show _ = _; omega
  have hop13 : op ≤ 13 := by omega
  have HB0 : Hid (∀ v, Below W.heap.size W v → v.heap[w.heap.size]? = some (.cells (arrI x) 50 (0, 0))) := fun v hv => (hv.block _ (Array.getElem?_eq_some_iff.1 HBX.out).1).trans HBX.out
  clear h1 h2 hop
  go_enter Tryd.func71, Tryd.ntmps71
  go_upto_region 2 with (first
    | rw [HW.out]
    | (at_make
       refine wpList_make_full _ rfl _ _ 47 rfl W.heap.size 4 b0 (.bool false) 1 Tryd.underlying47 hbi hbz0 hbz1 .i64 .i64 14 14 14 rfl rfl rfl rfl (by rw [hbz2]; omega) (by unfold maxLen; omega) (Nat.le_refl _) ?_
       intro w1 hown1 hgrow1
       rw [falses, ← flB_0] at hown1)
    | fail)
  have HF1 : Hid (FlO w1 W.heap.size 0) := hown1
  have HB1 : Hid (Below W.heap.size W w1) := (Below.refl _ W).grown hgrow1 (Nat.le_refl _) (fun k e => (by cases e))
  clear hown1 hgrow1
  go_upto_region 3 with (first
    | (at_make
       refine wpList_make_full _ rfl _ _ 47 rfl w1.heap.size 4 b0 (.bool false) 1 Tryd.underlying47 hbi hbz0 hbz1 .i64 .i64 14 14 14 rfl rfl rfl rfl (by rw [hbz2]; omega) (by unfold maxLen; omega) (Nat.le_refl _) ?_
       intro w2 hown2 hgrow2
       rw [falses, ← flB_0] at hown2)
    | fail)
  have HF2 : Hid (FlO w2 w1.heap.size 0) := hown2
  have hb12 : Below w1.heap.size w1 w2 := (Below.refl _ w1).grown hgrow2 (Nat.le_refl _) (fun k e => (by cases e))
  have HF1' : Hid (FlO w2 W.heap.size 0) := HF1.out.far fun h => hb12.block _ h
  have hPR : W.heap.size < w1.heap.size := HF1.out.lt
  have HB2 : Hid (Below W.heap.size W w2) := HB1.out.trans (hb12.mono HB1.out.size)
  have HPR := Lib.hid hPR
  have HR2 : Hid (w1.heap.size < w2.heap.size) := HF2.out.lt
  obtain ⟨P, hP⟩ : ∃ P, W.heap.size = P := ⟨_, rfl⟩
  obtain ⟨R, hR⟩ : ∃ R, w1.heap.size = R := ⟨_, rfl⟩
  have HWP := Lib.hid hP
  rw [hP] at HF1' HPR ⊢
  rw [hR] at HF2 HPR HR2 ⊢
  have hi2 := HB0.out w2 HB2.out
  have x0 : w2.cell? ⟨w.heap.size, 0, none⟩ = some (.int .i64 (op : Int)) := by rw [cell_at hi2, ← HOP.out]; rfl
  clear hown2 hgrow2 hb12 HF1 HB1 hPR hP hR hi2
  go_wp2_with fail
  refine (l12Kind_one op hop13 w2).mono ?_
  rintro e w3 ⟨rfl, hb3⟩
  obtain ⟨s, hs⟩ : ∃ s, kbB op = s := ⟨_, rfl⟩
  have HS := Lib.hid hs
  have HB3 : Hid (Below W.heap.size W w3) := HB2.out.trans (hb3.mono HB2.out.size)
  have HF13 : Hid (FlO w3 P 0) := HF1'.out.far fun h => hb3.block _ h
  have HF23 : Hid (FlO w3 R 0) := HF2.out.far fun h => hb3.block _ h
  have hi3 := HB0.out w3 HB3.out
  have y0 : w3.cell? ⟨w.heap.size, 0, none⟩ = some (.int .i64 x.op) := by rw [cell_at hi3]; rfl
  have y1 : w3.cell? ⟨w.heap.size, 1, none⟩ = some (.int .i64 x.fa) := by rw [cell_at hi3]; rfl
  have y2 : w3.cell? ⟨w.heap.size, 2, none⟩ = some (.int .i64 x.fb) := by rw [cell_at hi3]; rfl
  have y3 : w3.cell? ⟨w.heap.size, 3, none⟩ = some (.int .i64 x.fc) := by rw [cell_at hi3]; rfl
  have y4 : w3.cell? ⟨w.heap.size, 4, none⟩ = some (.int .i64 x.fd) := by rw [cell_at hi3]; rfl
  have HR3 : Hid (R < w3.heap.size) := HF23.out.lt
  rw [hs]
  clear hs hb3 hi3 x0 HF1' HF2 HB2 HR2
  go_wp2_with fail
  refine (l6Parts_one x w3).mono ?_
  rintro e w4 ⟨pb, rfl, hrp, hpb, hb4⟩
  have HB4 : Hid (Below W.heap.size W w4) := HB3.out.trans (hb4.mono HB3.out.size)
  have HPB : Hid (R < pb) := by have := HR3.out; show R < pb; omega
  obtain ⟨sl, hsl⟩ : ∃ sl, s.size = sl := ⟨_, rfl⟩
  have HSL := Lib.hid hsl
  have HLEN : Hid ((kkL.getD op []).length = sl) := by rw [← hsl, ← HS.out]; exact (kbB_size op).symm
  have hsl4 : sl ≤ 4 := by rw [← HLEN.out]; exact kkL_len op
  have HL0 : Hid (RgL x w4 P R pb sl (.int .i64 0) w4) := ⟨0, Nat.zero_le _, rfl, HF13.out.far fun h => hb4.block _ h, HF23.out.far fun h => hb4.block _ h, hrp, Below.refl _ _⟩
  clear hrp hpb hb4 y0 y1 y2 y3 y4 HF13 HF23 HB3 HR3
  go_wp2_with fail
  go_loopw [8] (fun i wr => RgL x w4 P R pb sl i wr) (fun i _ => sl - (intOf i).toNat)
  case atStart => exact HL0.out
  case round =>
    obtain ⟨j, hj, rfl, hf1, hf2, hrp, hbr⟩ := hrel
    have HF1 := Lib.hid hf1
    have HF2 := Lib.hid hf2
    have HRP := Lib.hid hrp
    have HBR := Lib.hid hbr
    clear hf1 hf2 hrp hbr HL0
    by_cases hlt : j < sl
    · have hk : j < s.size := by rw [hsl]; exact hlt
      have hsj : s[j] = kkC (kkAt op j) := by
        have e := HS.out
        subst e
        exact kbB_at op j hk
      have hge1 : decide ((s.size : Int) ≤ (j : Int)) = false := by simp; omega
      have hge2 : decide (s.size ≤ j) = false := by simp; omega
      have hkk := kkAt_le op j
      obtain ⟨kk, hkkk⟩ : ∃ kk, kkAt op j = kk := ⟨_, rfl⟩
      rw [hkkk] at hsj hkk
      have HKK : Hid (kkAt x.op.toNat j = kk) := by rw [HOPN.out]; exact hkkk
      have c0 := HRP.out.at j (by omega)
      obtain ⟨z, hz⟩ : ∃ z, x.part j = z := ⟨_, rfl⟩
      rw [hz] at c0
      have HZ := Lib.hid hz
      clear hkkk hz
      have hc : kk = 0 ∨ kk = 1 ∨ kk = 2 ∨ kk = 3 := by omega
      rcases hc with rfl | rfl | rfl | rfl
      · have hsn : (s[j].toNat : Int) = 48 := by rw [hsj]; rfl
        have HREL : Hid (RgL x w4 P R pb sl (.int .i64 ((j : Int) + 1)) wr) := by
          refine ⟨j + 1, hlt, by go_num, ?_, ?_, HRP.out, HBR.out⟩
          · have e : rK x (j + 1) = rK x j := by
              show (if kkAt x.op.toNat j = 1 ∨ kkAt x.op.toNat j = 3 then _ else _) = _
              rw [HKK.out]; rfl
            rw [e]; exact HF1.out
          · have e : wK x (j + 1) = wK x j := by
              show (if kkAt x.op.toNat j = 2 ∨ kkAt x.op.toNat j = 3 then _ else _) = _
              rw [HKK.out]; rfl
            rw [e]; exact HF2.out
        clear hsj
        go_wp2_with fail
        go_roundw
        case rel => exact HREL.out
        case measure => simp [intOf]; omega
      · have hsn : (s[j].toNat : Int) = 49 := by rw [hsj]; rfl
        have hpr := part_reg HX.out H1.out H2.out j (by rw [HKK.out]; omega)
        rw [HZ.out] at hpr
        obtain ⟨q, rfl⟩ : ∃ q : Nat, z = q := ⟨z.toNat, by omega⟩
        have hq14 : q < 14 := by omega
        have hqI : (q : Int) < 14 := by omega
        have HRKL := Lib.hid (rK_lt HX.out H1.out H2.out j)
        have HWKL := Lib.hid (wK_lt HX.out H1.out H2.out j)
        have hPR := HPR.out
        have hRb := HPB.out
        have p0 := HF1.out.get hq14
        have pf := World.ownsRow.frozenAt HF1.out q
        have HW1 : Hid (∀ g, g ≠ P → (wr.setCell ⟨P, q, none⟩ (.bool true)).heap[g]? = wr.heap[g]?) := fun g hg => Below.heap_setCell _ _ _ _ (by simpa using hg)
        have HFA : Hid (FlO (wr.setCell ⟨P, q, none⟩ (.bool true)) P (sb (rK x j) q true)) := HF1.out.set HRKL.out hq14
        have HFB : Hid (FlO (wr.setCell ⟨P, q, none⟩ (.bool true)) R (wK x j)) := HF2.out.far fun _ => HW1.out R (by omega)
        have HRQ : Hid (RowP (wr.setCell ⟨P, q, none⟩ (.bool true)) pb x) := (HW1.out pb (by omega)).trans HRP.out
        have HBQ : Hid (Below P w4 (wr.setCell ⟨P, q, none⟩ (.bool true))) := HBR.out.setCell (p := ⟨P, q, none⟩) (Nat.le_refl _) _
        have c1 := HRQ.out.at j (by omega)
        rw [HZ.out] at c1
        have HREL : Hid (RgL x w4 P R pb sl (.int .i64 ((j : Int) + 1)) (wr.setCell ⟨P, q, none⟩ (.bool true))) := by
          refine ⟨j + 1, hlt, by go_num, ?_, ?_, HRQ.out, HBQ.out⟩
          · have e : rK x (j + 1) = sb (rK x j) (x.part j).toNat true := by
              show (if kkAt x.op.toNat j = 1 ∨ kkAt x.op.toNat j = 3 then _ else _) = _
              rw [HKK.out]; rfl
            rw [e, HZ.out]; exact HFA.out
          · have e : wK x (j + 1) = wK x j := by
              show (if kkAt x.op.toNat j = 2 ∨ kkAt x.op.toNat j = 3 then _ else _) = _
              rw [HKK.out]; rfl
            rw [e]; exact HFB.out
        clear hsj hpr
        go_wp2_with fail
        go_roundw
        case rel => exact HREL.out
        case measure => simp [intOf]; omega
      · have hsn : (s[j].toNat : Int) = 50 := by rw [hsj]; rfl
        have hpr := part_reg HX.out H1.out H2.out j (by rw [HKK.out]; omega)
        rw [HZ.out] at hpr
        obtain ⟨q, rfl⟩ : ∃ q : Nat, z = q := ⟨z.toNat, by omega⟩
        have hq14 : q < 14 := by omega
        have hqI : (q : Int) < 14 := by omega
        have HRKL := Lib.hid (rK_lt HX.out H1.out H2.out j)
        have HWKL := Lib.hid (wK_lt HX.out H1.out H2.out j)
        have hPR := HPR.out
        have hRb := HPB.out
        have HFA : Hid (FlO wr P (rK x j)) := HF1
        have HFB : Hid (FlO wr R (wK x j)) := HF2
        have HRQ : Hid (RowP wr pb x) := HRP
        have HBQ : Hid (Below P w4 wr) := HBR
        have r0 := HFB.out.get hq14
        have rf := World.ownsRow.frozenAt HFB.out q
        have HW2 : Hid (∀ g, g ≠ R → (wr.setCell ⟨R, q, none⟩ (.bool true)).heap[g]? = wr.heap[g]?) := fun g hg => Below.heap_setCell _ _ _ _ (by simpa using hg)
        have HFA2 : Hid (FlO (wr.setCell ⟨R, q, none⟩ (.bool true)) P _) := HFA.out.far fun _ => HW2.out P (by omega)
        have HFB2 : Hid (FlO (wr.setCell ⟨R, q, none⟩ (.bool true)) R (sb (wK x j) q true)) := HFB.out.set HWKL.out hq14
        have HRQ2 : Hid (RowP (wr.setCell ⟨R, q, none⟩ (.bool true)) pb x) := (HW2.out pb (by omega)).trans HRQ.out
        have HBQ2 : Hid (Below P w4 (wr.setCell ⟨R, q, none⟩ (.bool true))) := HBQ.out.setCell (p := ⟨R, q, none⟩) (by show P ≤ R; omega) _
        have HREL : Hid (RgL x w4 P R pb sl (.int .i64 ((j : Int) + 1)) (wr.setCell ⟨R, q, none⟩ (.bool true))) := by
          refine ⟨j + 1, hlt, by go_num, ?_, ?_, HRQ2.out, HBQ2.out⟩
          · have e : rK x (j + 1) = rK x j := by
              show (if kkAt x.op.toNat j = 1 ∨ kkAt x.op.toNat j = 3 then _ else _) = _
              rw [HKK.out]; rfl
            rw [e]; exact HFA2.out
          · have e : wK x (j + 1) = sb (wK x j) (x.part j).toNat true := by
              show (if kkAt x.op.toNat j = 2 ∨ kkAt x.op.toNat j = 3 then _ else _) = _
              rw [HKK.out]; rfl
            rw [e, HZ.out]; exact HFB2.out
        clear hsj hpr
        go_wp2_with fail
        go_roundw
        case rel => exact HREL.out
        case measure => simp [intOf]; omega
      · have hsn : (s[j].toNat : Int) = 51 := by rw [hsj]; rfl
        have hpr := part_reg HX.out H1.out H2.out j (by rw [HKK.out]; omega)
        rw [HZ.out] at hpr
        obtain ⟨q, rfl⟩ : ∃ q : Nat, z = q := ⟨z.toNat, by omega⟩
        have hq14 : q < 14 := by omega
        have hqI : (q : Int) < 14 := by omega
        have HRKL := Lib.hid (rK_lt HX.out H1.out H2.out j)
        have HWKL := Lib.hid (wK_lt HX.out H1.out H2.out j)
        have hPR := HPR.out
        have hRb := HPB.out
        have p0 := HF1.out.get hq14
        have pf := World.ownsRow.frozenAt HF1.out q
        have HW1 : Hid (∀ g, g ≠ P → (wr.setCell ⟨P, q, none⟩ (.bool true)).heap[g]? = wr.heap[g]?) := fun g hg => Below.heap_setCell _ _ _ _ (by simpa using hg)
        have HFA : Hid (FlO (wr.setCell ⟨P, q, none⟩ (.bool true)) P (sb (rK x j) q true)) := HF1.out.set HRKL.out hq14
        have HFB : Hid (FlO (wr.setCell ⟨P, q, none⟩ (.bool true)) R (wK x j)) := HF2.out.far fun _ => HW1.out R (by omega)
        have HRQ : Hid (RowP (wr.setCell ⟨P, q, none⟩ (.bool true)) pb x) := (HW1.out pb (by omega)).trans HRP.out
        have HBQ : Hid (Below P w4 (wr.setCell ⟨P, q, none⟩ (.bool true))) := HBR.out.setCell (p := ⟨P, q, none⟩) (Nat.le_refl _) _
        have c1 := HRQ.out.at j (by omega)
        rw [HZ.out] at c1
        have r0 := HFB.out.get hq14
        have rf := World.ownsRow.frozenAt HFB.out q
        have HW2 : Hid (∀ g, g ≠ R → ((wr.setCell ⟨P, q, none⟩ (.bool true)).setCell ⟨R, q, none⟩ (.bool true)).heap[g]? = (wr.setCell ⟨P, q, none⟩ (.bool true)).heap[g]?) := fun g hg => Below.heap_setCell _ _ _ _ (by simpa using hg)
        have HFA2 : Hid (FlO ((wr.setCell ⟨P, q, none⟩ (.bool true)).setCell ⟨R, q, none⟩ (.bool true)) P _) := HFA.out.far fun _ => HW2.out P (by omega)
        have HFB2 : Hid (FlO ((wr.setCell ⟨P, q, none⟩ (.bool true)).setCell ⟨R, q, none⟩ (.bool true)) R (sb (wK x j) q true)) := HFB.out.set HWKL.out hq14
        have HRQ2 : Hid (RowP ((wr.setCell ⟨P, q, none⟩ (.bool true)).setCell ⟨R, q, none⟩ (.bool true)) pb x) := (HW2.out pb (by omega)).trans HRQ.out
        have HBQ2 : Hid (Below P w4 ((wr.setCell ⟨P, q, none⟩ (.bool true)).setCell ⟨R, q, none⟩ (.bool true))) := HBQ.out.setCell (p := ⟨R, q, none⟩) (by show P ≤ R; omega) _
        have HREL : Hid (RgL x w4 P R pb sl (.int .i64 ((j : Int) + 1)) ((wr.setCell ⟨P, q, none⟩ (.bool true)).setCell ⟨R, q, none⟩ (.bool true))) := by
          refine ⟨j + 1, hlt, by go_num, ?_, ?_, HRQ2.out, HBQ2.out⟩
          · have e : rK x (j + 1) = sb (rK x j) (x.part j).toNat true := by
              show (if kkAt x.op.toNat j = 1 ∨ kkAt x.op.toNat j = 3 then _ else _) = _
              rw [HKK.out]; rfl
            rw [e, HZ.out]; exact HFA2.out
          · have e : wK x (j + 1) = sb (wK x j) (x.part j).toNat true := by
              show (if kkAt x.op.toNat j = 2 ∨ kkAt x.op.toNat j = 3 then _ else _) = _
              rw [HKK.out]; rfl
            rw [e, HZ.out]; exact HFB2.out
        clear hsj hpr
        go_wp2_with fail
        go_roundw
        case rel => exact HREL.out
        case measure => simp [intOf]; omega
    · obtain rfl : j = sl := by omega
      have HFIN : Hid (RegN x w (.returned (.tuple #[.slice (some ⟨P, 0, none⟩) 14 14, .slice (some ⟨R, 0, none⟩) 14 14])) wr) := by
        have hz := HB.out.size
        have hP := HWP.out
        have hPR := HPR.out
        have e1 := rK_all H1.out H2.out
        have e2 := wK_all H1.out H2.out
        rw [HOPN.out, HLEN.out] at e1 e2
        refine ⟨P, R, rfl, by rw [← e1]; exact HF1.out, by rw [← e2]; exact HF2.out, by omega, by omega, HB.out.trans ((HB4.out.mono hz).trans (HBR.out.mono (by omega)))⟩
      clear HF1 HF2 HRP HBR
      go_wp2_with fail
      go_ret2
      exact HFIN.out

end Go.Proofs.YtbifbmpflhdijaaDoor

namespace Go.Proofs.YtbifbmpflhdijaaDoor
open Go.RowKit
set_option linter.unusedVariables false

theorem bef_bit {nv na : Nat} {x : Ins} (h : InsT nv na x) {a : Nat} (ha : a < 16384) (b : Nat) : (bef x a).testBit b = ((rdM x).testBit b || (a.testBit b && !(wrM x).testBit b)) := by
  unfold bef
  rw [Nat.testBit_or, andn_bit (by omega) (by have := wrM_lt h; omega)]
theorem ownB_made (w : World) (base : Nat) (hb : base ≤ w.heap.size) : (w.alloc (.cells #[] 4)).ownsRow base 4 1 (.slice (some ⟨w.heap.size, 0, none⟩) 0 0) 0 [] :=
  ⟨by simp, .inr ⟨w.heap.size, 0, _, rfl, hb, heap_alloc_new w _, Nat.le_refl _, by unfold maxLen; omega, by simp, by simp⟩⟩
theorem flg_of {w w' : World} {z : Nat} {a : Option Addr} {c base : Nat} (h : w'.ownsRow base 4 1 (.slice a 14 c) 14 ((flB z).map Value.bool)) (hb : w.heap.size ≤ base) (hB : Below w.heap.size w w') : FlgN z w (.returned (.slice a 14 c)) w' := by
  refine ⟨a, c, rfl, ?_, hB⟩
  have h1 : OwnB w' base (.slice a 14 c) (flB z) := by unfold OwnB; rw [flB_len]; exact h
  exact h1.monoB hb
/-- The state of the loop. -/
def BfL (z B : Nat) (W0 : World) (ov i : Value) (wr : World) : Prop := ∃ (j : Nat) (a : Option Addr) (c : Nat), j ≤ 14 ∧ i = .int .i64 (j : Int) ∧ ov = .slice a j c ∧ wr.ownsRow B 4 1 (.slice a j c) j (((flB z).take j).map Value.bool) ∧ Below B W0 wr

set_option maxRecDepth 100000 in
set_option maxHeartbeats 8000000 in
/-- **spec.l12Before.** -/
theorem l12Before_one {nv na : Nat} (x : Ins) (a : Nat) (ta : Option Addr) (tc : Nat) (w : World) (hx : InsT nv na x) (h1 : 1 ≤ x.op) (h2 : x.op ≤ 13) (ha : a < 16384) (ht : BAt w (fun b => b < w.heap.size) (flB a) ta) :
    Calls Tryd.prog 60 #[aggI x, .slice ta 14 tc] w (FlgN (bef x a) w) := by
  obtain ⟨b0, hbi, hbz0, hbz1, hbz2⟩ := info_parts Tryd.infoB
  obtain ⟨W, hW⟩ : ∃ W, w.alloc (.cells (arrI x) 50) = W := ⟨_, rfl⟩
  have hB : Below w.heap.size w W := by rw [← hW]; exact (Below.refl _ w).alloc (Nat.le_refl _) _
  have hbx : W.heap[w.heap.size]? = some (.cells (arrI x) 50 (0, 0)) := by rw [← hW]; exact heap_alloc_new w _
  have x0 : W.cell? ⟨w.heap.size, 0, none⟩ = some (.int .i64 x.op) := by rw [cell_at hbx]; rfl
  have x1 : W.cell? ⟨w.heap.size, 1, none⟩ = some (.int .i64 x.fa) := by rw [cell_at hbx]; rfl
  have x2 : W.cell? ⟨w.heap.size, 2, none⟩ = some (.int .i64 x.fb) := by rw [cell_at hbx]; rfl
  have x3 : W.cell? ⟨w.heap.size, 3, none⟩ = some (.int .i64 x.fc) := by rw [cell_at hbx]; rfl
  have x4 : W.cell? ⟨w.heap.size, 4, none⟩ = some (.int .i64 x.fd) := by rw [cell_at hbx]; rfl
  have HRG := Lib.hid (l12Regs_one x W hx h1 h2)
  have HX := Lib.hid hx
  have HA := Lib.hid ha
  have HT := Lib.hid ht
  have HW := Lib.hid hW
  have HB := Lib.hid hB
  clear hx ha ht hW hB hbx
  unfold arrI at HW
  go_enter Tryd.func60, Tryd.ntmps60
  go_wp2_with (first | rw [HW.out] | fail)
  refine HRG.out.mono ?_
  rintro e w2 ⟨P, R, rfl, hfp, hfr, hPl, hRl, hb2⟩
  have HFP := Lib.hid hfp
  have HFR := Lib.hid hfr
  have HB2 : Hid (Below w.heap.size w w2) := HB.out.trans (hb2.mono HB.out.size)
  have hP2 := hfp.lt
  have hR2 := hfr.lt
  obtain ⟨w3, hw3⟩ : ∃ w3, w2.alloc (.cells #[] 4) = w3 := ⟨_, rfl⟩
  have hb3 : Below w2.heap.size w2 w3 := by rw [← hw3]; exact (Below.refl _ _).alloc (Nat.le_refl _) _
  have HL0 : Hid (BfL (bef x a) w2.heap.size w2 (.slice (some ⟨w2.heap.size, 0, none⟩) 0 0) (.int .i64 0) w3) := ⟨0, _, 0, Nat.zero_le _, rfl, rfl, by rw [← hw3]; exact ownB_made w2 _ (Nat.le_refl _), hb3⟩
  have HW3 := Lib.hid hw3
  have hz2 := HB2.out.size
  clear hfp hfr hb2 hb3 hw3 HRG x0 x1 x2 x3 x4
  go_wp2_with fail
  rw [HW3.out]
  go_loopw [7, 8] (fun ov i wr => BfL (bef x a) w2.heap.size w2 ov i wr) (fun _ i _ => 14 - (intOf i).toNat)
  case atStart => exact HL0.out
  case round =>
    obtain ⟨j, oa, oc, hj, rfl, rfl, hrow, hbr⟩ := hrel
    have HROW := Lib.hid hrow
    have HBR := Lib.hid hbr
    have hzr := hbr.size
    clear hrow hbr HL0
    by_cases hlt : j < 14
    · have HFPw : Hid (FlO wr P (rdM x)) := HFP.out.far fun h => HBR.out.block P h
      have HFRw : Hid (FlO wr R (wrM x)) := HFR.out.far fun h => HBR.out.block R h
      have hat : BAt wr (fun b => b < wr.heap.size) (flB a) ta := HT.out.wide (fun k hk => (HBR.out.block k (by omega)).trans (HB2.out.block k hk)) fun k hk => by omega
      obtain ⟨tb, tO, rfl, _, q0⟩ := hat.2 j _ (flB_at a hlt)
      have p0 := HFPw.out.get hlt
      have u0 := HFRw.out.get hlt
      have hjI : (j : Int) < 14 := by omega
      have HBF := Lib.hid (bef_bit HX.out HA.out j)
      obtain ⟨p, hp⟩ : ∃ p, (rdM x).testBit j = p := ⟨_, rfl⟩
      obtain ⟨q, hq⟩ : ∃ q, a.testBit j = q := ⟨_, rfl⟩
      obtain ⟨u, hu⟩ : ∃ u, (wrM x).testBit j = u := ⟨_, rfl⟩
      rw [hp, hq, hu] at HBF
      rw [hp] at p0
      rw [hq] at q0
      rw [hu] at u0
      clear hp hq hu hat
      have HAPP : Hid (∀ v : Bool, (bef x a).testBit j = v → ∀ (g cp : Nat) (w5 : World), w5.ownsRow w2.heap.size 4 1 (.slice (some ⟨g, 0, none⟩) (j + 1) cp) (j + 1) (((flB (bef x a)).take j).map Value.bool ++ [.bool v]) → (wr.alloc (.cells #[.bool v] 4)).grownBy w5 (Value.slice oa j oc).ownBlock → BfL (bef x a) w2.heap.size w2 (.slice (some ⟨g, 0, none⟩) (j + 1) cp) (.int .i64 ((j : Int) + 1)) w5) := fun v hv g cp w5 hown hgr => by
        refine ⟨j + 1, _, cp, hlt, by go_num, rfl, ?_, (HBR.out.alloc hzr _).grown hgr (by simp; omega) (fun t ht => (HROW.out.lt t ht).1)⟩
        have e1 : (flB (bef x a)).take (j + 1) = (flB (bef x a)).take j ++ [v] := by rw [List.take_add_one, flB_at _ hlt, hv]; rfl
        rw [e1, List.map_append]
        exact hown
      cases p
      case true =>
        have hv : (bef x a).testBit j = true := HBF.out
        have HAP := Lib.hid (HAPP.out true hv)
        obtain ⟨V3, hV3⟩ : ∃ V3, wr.alloc (.cells #[.bool true] 4) = V3 := ⟨_, rfl⟩
        have hz3 : V3.heap.size = wr.heap.size + 1 := by rw [← hV3]; simp
        have hblk : V3.heap[wr.heap.size]? = some (.cells #[.bool true] 4 (0, 0)) := by rw [← hV3]; exact heap_alloc_new wr _
        have hr3 : V3.ownsRow w2.heap.size 4 1 (.slice oa j oc) j (((flB (bef x a)).take j).map Value.bool) := by rw [← hV3]; exact HROW.out.alloc _
        rw [hV3] at HAP
        have HV3 := Lib.hid hV3
        clear hV3 hv HAPP HBF
        go_wp2_with (first
          | (at_builtin
             rw [HV3.out]
             refine wpList_append_lies _ (by rfl) _ _ 47 (by rfl) w2.heap.size 4 b0 _ 1 1 Tryd.underlying47 hbi hbz0 hbz1 hbz2 rfl (by omega) (.slice oa j oc) j _ (by rfl) hr3 ⟨wr.heap.size, 0, none⟩ 1 1 _ (by rfl) (by rfl) (World.news_of_block hblk) (by simp [Value.oneCell']) (by omega) (by unfold maxLen; omega) (by omega) (by omega) (wr.heap.size + 1) (by omega) ?_
             intro g5 cp w5 hown5 hgrow hat5 hlt5
             have HREL := Lib.hid (HAP.out g5 cp w5 hown5 hgrow)
             clear hown5 hgrow hat5 hblk hr3)
          | fail)
        go_roundw
        case rel => exact HREL.out
        case measure => simp [intOf]; omega
      case false =>
        cases q
        case false =>
          have hv : (bef x a).testBit j = false := HBF.out
          have HAP := Lib.hid (HAPP.out false hv)
          obtain ⟨V3, hV3⟩ : ∃ V3, wr.alloc (.cells #[.bool false] 4) = V3 := ⟨_, rfl⟩
          have hz3 : V3.heap.size = wr.heap.size + 1 := by rw [← hV3]; simp
          have hblk : V3.heap[wr.heap.size]? = some (.cells #[.bool false] 4 (0, 0)) := by rw [← hV3]; exact heap_alloc_new wr _
          have hr3 : V3.ownsRow w2.heap.size 4 1 (.slice oa j oc) j (((flB (bef x a)).take j).map Value.bool) := by rw [← hV3]; exact HROW.out.alloc _
          rw [hV3] at HAP
          have HV3 := Lib.hid hV3
          clear hV3 hv HAPP HBF
          go_wp2_with (first
            | (at_builtin
               rw [HV3.out]
               refine wpList_append_lies _ (by rfl) _ _ 47 (by rfl) w2.heap.size 4 b0 _ 1 1 Tryd.underlying47 hbi hbz0 hbz1 hbz2 rfl (by omega) (.slice oa j oc) j _ (by rfl) hr3 ⟨wr.heap.size, 0, none⟩ 1 1 _ (by rfl) (by rfl) (World.news_of_block hblk) (by simp [Value.oneCell']) (by omega) (by unfold maxLen; omega) (by omega) (by omega) (wr.heap.size + 1) (by omega) ?_
               intro g5 cp w5 hown5 hgrow hat5 hlt5
               have HREL := Lib.hid (HAP.out g5 cp w5 hown5 hgrow)
               clear hown5 hgrow hat5 hblk hr3)
            | fail)
          go_roundw
          case rel => exact HREL.out
          case measure => simp [intOf]; omega
        case true =>
          cases u
          case false =>
            have hv : (bef x a).testBit j = true := HBF.out
            have HAP := Lib.hid (HAPP.out true hv)
            obtain ⟨V3, hV3⟩ : ∃ V3, wr.alloc (.cells #[.bool true] 4) = V3 := ⟨_, rfl⟩
            have hz3 : V3.heap.size = wr.heap.size + 1 := by rw [← hV3]; simp
            have hblk : V3.heap[wr.heap.size]? = some (.cells #[.bool true] 4 (0, 0)) := by rw [← hV3]; exact heap_alloc_new wr _
            have hr3 : V3.ownsRow w2.heap.size 4 1 (.slice oa j oc) j (((flB (bef x a)).take j).map Value.bool) := by rw [← hV3]; exact HROW.out.alloc _
            rw [hV3] at HAP
            have HV3 := Lib.hid hV3
            clear hV3 hv HAPP HBF
            go_wp2_with (first
              | (at_builtin
                 rw [HV3.out]
                 refine wpList_append_lies _ (by rfl) _ _ 47 (by rfl) w2.heap.size 4 b0 _ 1 1 Tryd.underlying47 hbi hbz0 hbz1 hbz2 rfl (by omega) (.slice oa j oc) j _ (by rfl) hr3 ⟨wr.heap.size, 0, none⟩ 1 1 _ (by rfl) (by rfl) (World.news_of_block hblk) (by simp [Value.oneCell']) (by omega) (by unfold maxLen; omega) (by omega) (by omega) (wr.heap.size + 1) (by omega) ?_
                 intro g5 cp w5 hown5 hgrow hat5 hlt5
                 have HREL := Lib.hid (HAP.out g5 cp w5 hown5 hgrow)
                 clear hown5 hgrow hat5 hblk hr3)
              | fail)
            go_roundw
            case rel => exact HREL.out
            case measure => simp [intOf]; omega
          case true =>
            have hv : (bef x a).testBit j = false := HBF.out
            have HAP := Lib.hid (HAPP.out false hv)
            obtain ⟨V3, hV3⟩ : ∃ V3, wr.alloc (.cells #[.bool false] 4) = V3 := ⟨_, rfl⟩
            have hz3 : V3.heap.size = wr.heap.size + 1 := by rw [← hV3]; simp
            have hblk : V3.heap[wr.heap.size]? = some (.cells #[.bool false] 4 (0, 0)) := by rw [← hV3]; exact heap_alloc_new wr _
            have hr3 : V3.ownsRow w2.heap.size 4 1 (.slice oa j oc) j (((flB (bef x a)).take j).map Value.bool) := by rw [← hV3]; exact HROW.out.alloc _
            rw [hV3] at HAP
            have HV3 := Lib.hid hV3
            clear hV3 hv HAPP HBF
            go_wp2_with (first
              | (at_builtin
                 rw [HV3.out]
                 refine wpList_append_lies _ (by rfl) _ _ 47 (by rfl) w2.heap.size 4 b0 _ 1 1 Tryd.underlying47 hbi hbz0 hbz1 hbz2 rfl (by omega) (.slice oa j oc) j _ (by rfl) hr3 ⟨wr.heap.size, 0, none⟩ 1 1 _ (by rfl) (by rfl) (World.news_of_block hblk) (by simp [Value.oneCell']) (by omega) (by unfold maxLen; omega) (by omega) (by omega) (wr.heap.size + 1) (by omega) ?_
                 intro g5 cp w5 hown5 hgrow hat5 hlt5
                 have HREL := Lib.hid (HAP.out g5 cp w5 hown5 hgrow)
                 clear hown5 hgrow hat5 hblk hr3)
              | fail)
            go_roundw
            case rel => exact HREL.out
            case measure => simp [intOf]; omega
    · obtain rfl : j = 14 := by omega
      have hrow := HROW.out
      rw [List.take_of_length_le (by rw [flB_len]; exact Nat.le_refl _)] at hrow
      have HFIN := Lib.hid (flg_of hrow hz2 (HB2.out.trans (HBR.out.mono hz2)))
      clear hrow HROW HBR
      go_wp2_with fail
      go_ret
      exact HFIN.out

end Go.Proofs.YtbifbmpflhdijaaDoor

namespace Go.Proofs.YtbifbmpflhdijaaDoor
open Go.RowKit
set_option linter.unusedVariables false

theorem sb_lt14v {m r : Nat} {v : Bool} (hm : m < 16384) (hr : r < 14) : sb m r v < 16384 := by
  cases v
  · unfold sb; rw [if_neg (by simp)]; exact and_lt14 _ hm
  · exact sb_lt14 hm hr
/-- The mask a with the first r registers of b. -/
def mx (a b : Nat) : Nat → Nat
  | 0 => a
  | r + 1 => sb (mx a b r) r (a.testBit r || b.testBit r)
theorem mx_lt {a b : Nat} (ha : a < 16384) : ∀ r, r ≤ 14 → mx a b r < 16384
  | 0, _ => ha
  | r + 1, h => sb_lt14v (mx_lt ha r (by omega)) (by omega)
theorem mx_bit {a b : Nat} (ha : a < 16384) : ∀ (r q : Nat), r ≤ 14 → (mx a b r).testBit q = if q < r then (a.testBit q || b.testBit q) else a.testBit q
  | 0, q, _ => by simp [mx]
  | r + 1, q, h => by
    show (sb (mx a b r) r (a.testBit r || b.testBit r)).testBit q = _
    rw [sb_bit (by have := mx_lt (b := b) ha r (by omega); omega) (by omega)]
    by_cases e : q = r
    · subst e; rw [if_pos rfl, if_pos (by omega)]
    · rw [if_neg e, mx_bit ha r q (by omega)]
      by_cases h2 : q < r
      · rw [if_pos h2, if_pos (by omega)]
      · rw [if_neg h2, if_neg (by omega)]
theorem mx_all {a b : Nat} (ha : a < 16384) (hb : b < 16384) : mx a b 14 = a ||| b := by
  apply Nat.eq_of_testBit_eq
  intro q
  rw [mx_bit ha 14 q (by omega), Nat.testBit_or]
  split
  · rfl
  · rw [bit_lt14 hb (by omega), Bool.or_false]
theorem FlO.setv {w : World} {b m : Nat} (h : FlO w b m) (hm : m < 16384) {r : Nat} (hr : r < 14) (v : Bool) : FlO (w.setCell ⟨b, r, none⟩ (.bool v)) b (sb m r v) := by
  have h1 := (World.ownsRow.stored h r (.bool v)).1
  rw [← List.map_set, flB_set hm hr] at h1
  exact h1
theorem orT_snoc (T : Nat → Nat) (t : Nat) : ∀ (L : List Nat) (a : Nat), orT T a (L ++ [t]) = orT T a L ||| T t
  | [], a => rfl
  | q :: L, a => orT_snoc T t L _
theorem orT_perm {T : Nat → Nat} {L L' : List Nat} (h : ∀ t, t ∈ L ↔ t ∈ L') : orT T 0 L = orT T 0 L' := by
  refine eq_of_sub (fun b hb => ?_) (fun b hb => ?_)
  all_goals
    rw [orT_bit] at hb ⊢
    rcases hb with hb | ⟨t, h1, h2⟩
    · exact .inl hb
  · exact .inr ⟨t, (h t).1 h1, h2⟩
  · exact .inr ⟨t, (h t).2 h1, h2⟩
/-- The states of the two loops. -/
def AfO (T : Nat → Nat) (ns : List Nat) (nl P : Nat) (W2 : World) (i : Value) (wr : World) : Prop := ∃ k : Nat, k ≤ nl ∧ i = .int .i64 (k : Int) ∧ FlO wr P (orT T 0 (ns.take k)) ∧ (∀ g, g ≠ P → g < W2.heap.size → wr.heap[g]? = W2.heap[g]?) ∧ Below P W2 wr
def AfI (a b P : Nat) (W2 : World) (i : Value) (wr : World) : Prop := ∃ r : Nat, r ≤ 14 ∧ i = .int .i64 (r : Int) ∧ FlO wr P (mx a b r) ∧ (∀ g, g ≠ P → g < W2.heap.size → wr.heap[g]? = W2.heap[g]?) ∧ Below P W2 wr

set_option maxRecDepth 100000 in
set_option maxHeartbeats 8000000 in
/-- **spec.l12After.** -/
theorem l12After_one (m : Cd) (k : CK) (ms : List Nat) (ta : Option Addr) (tn tc i : Nat) (x : Ins) (w : World) (h : CL w m k) (hok : Okc m.list) (hx : m.list[i]? = some x) (ht : BBs w (fun b => b < w.heap.size) (ms.map flB) ta) (hmn : ms.length = m.list.length) (hl : ∀ (i q : Nat), ms[i]? = some q → q < 16384) (htn : ms.length = tn) :
    Calls Tryd.prog 61 #[aggC m k, .slice ta tn tc, .int .i64 (i : Int)] w (FlgN (orT (fT ms) 0 (folN x i)) w) := by
  obtain ⟨b0, hbi, hbz0, hbz1, hbz2⟩ := info_parts Tryd.infoB
  obtain ⟨W, hW⟩ : ∃ W, w.alloc (.cells (arrC m k) 29) = W := ⟨_, rfl⟩
  have hB : Below w.heap.size w W := by rw [← hW]; exact (Below.refl _ w).alloc (Nat.le_refl _) _
  have hX : BoxC W w.heap.size m k := by rw [← hW]; exact BoxC.new _ _ _ _
  have HW := Lib.hid hW
  have HB := Lib.hid hB
  have HXB := Lib.hid hX
  have HCL := Lib.hid (h.below hB)
  have HT := Lib.hid ht
  have HOK := Lib.hid hok
  have HX := Lib.hid hx
  have HLT := Lib.hid hl
  have HMN := Lib.hid hmn
  have hi400 : i < 400 := by have h1 := (List.getElem?_eq_some_iff.1 hx).1; have h2 := hok.le; omega
  unfold arrC at HW
  clear h hok hx ht hmn hl hB hX hW
  go_enter Tryd.func61, Tryd.ntmps61
  go_upto_region 2 with (first
    | rw [HW.out]
    | (at_make
       refine wpList_make_full _ rfl _ _ 47 rfl W.heap.size 4 b0 (.bool false) 1 Tryd.underlying47 hbi hbz0 hbz1 .i64 .i64 14 14 14 rfl rfl rfl rfl (by rw [hbz2]; omega) (by unfold maxLen; omega) (Nat.le_refl _) ?_
       intro w1 hown1 hgrow1
       rw [falses, ← flB_0] at hown1)
    | fail)
  have HF1 : Hid (FlO w1 W.heap.size 0) := hown1
  have hb1 : Below W.heap.size W w1 := (Below.refl _ W).grown hgrow1 (Nat.le_refl _) (fun k e => (by cases e))
  have HB1 : Hid (Below w.heap.size w w1) := HB.out.trans (hb1.mono HB.out.size)
  have hX1 := HXB.out.below hb1 HXB.out.lt
  have c0 := hX1.c0
  have c1 := hX1.c1
  have c2 := hX1.c2
  have HNX : Hid (Calls Tryd.prog 96 #[.agg #[.slice k.va m.vars.length k.vc, .slice k.aa m.arrs.length k.ac, .slice k.la m.list.length k.lc], .int .i64 (i : Int)] w1 (IntsNew (folS x i) w1)) := by
    have h9 := l8Next_one m k i x w1 (HCL.out.below hb1) HX.out hi400
    unfold aggC at h9
    exact h9
  have hP1 : W.heap.size < w1.heap.size := HF1.out.lt
  have hwP := HB.out.size
  obtain ⟨P, hP⟩ : ∃ P, W.heap.size = P := ⟨_, rfl⟩
  rw [hP] at HF1 hP1 hwP ⊢
  clear hown1 hgrow1 hb1 hX1 hP
  go_wp2_with fail
  refine HNX.out.mono ?_
  rintro e w2 ⟨na, nc, rfl, hon, hb2⟩
  obtain ⟨na', nc', hne, hnat⟩ := hon.iat
  cases hne
  obtain ⟨ns, hns⟩ : ∃ ns : List Nat, (folS x i).map Int.toNat = ns := ⟨_, rfl⟩
  have HNS : Hid (folS x i = natI ns) := by
    show _ = _
    rw [← hns]
    unfold natI
    rw [List.map_map]
    refine (List.map_id _).symm.trans (List.map_congr_left fun z hz => ?_)
    obtain ⟨n, e, _⟩ := (folS_mem HOK.out HX.out z).1 hz
    subst e; rfl
  have HMEM : Hid (∀ t, t ∈ ns ↔ t ∈ folN x i) := fun t => by
    have h1 := folS_mem HOK.out HX.out (t : Int)
    rw [HNS.out] at h1
    constructor
    · intro e
      obtain ⟨n, e1, e2⟩ := h1.1 (List.mem_map.2 ⟨t, e, rfl⟩)
      have : n = t := by omega
      rw [← this]; exact e2
    · intro e
      obtain ⟨n, e1, e2⟩ := List.mem_map.1 (h1.2 ⟨t, rfl, e⟩)
      have : n = t := by omega
      rw [← this]; exact e1
  obtain ⟨nl, hnl⟩ : ∃ nl, ns.length = nl := ⟨_, rfl⟩
  have hfl : (folS x i).length = nl := by rw [HNS.out, natI_len]; exact hnl
  have hnl2 : nl ≤ 2 := by rw [← hfl]; exact folS_len x i
  rw [hfl]
  have HNAT : Hid (∀ (k t : Nat), ns[k]? = some t → ∃ g o, na = some ⟨g, o, none⟩ ∧ P < g ∧ g < w2.heap.size ∧ w2.cell? ⟨g, o + k, none⟩ = some (.int .i64 (t : Int))) := fun k t hk => by
    have hkl := (List.getElem?_eq_some_iff.1 hk).1
    obtain ⟨g, o, e1, e2, e3⟩ := hnat.2 k (by rw [hfl]; omega)
    rw [HNS.out, natI_at hk] at e3
    exact ⟨g, o, e1, by omega, e2.2, e3⟩
  have HNL := Lib.hid hnl
  have HB2 : Hid (Below w.heap.size w w2) := HB1.out.trans (hb2.mono HB1.out.size)
  have HT2 : Hid (BBs w2 (fun b => b < w.heap.size) (ms.map flB) ta) := HT.out.wide (fun g hg => HB2.out.block g hg) fun _ h => h
  have hPw2 : P < w2.heap.size := by have := hb2.size; omega
  have HL0 : Hid (AfO (fT ms) ns nl P w2 (.int .i64 0) w2) := ⟨0, Nat.zero_le _, rfl, HF1.out.far fun h => hb2.block _ h, fun _ _ _ => rfl, Below.refl _ _⟩
  clear hon hnat hns hnl hfl hb2 HNX HF1 c0 c1 c2
  go_wp2_with fail
  go_loopw [9] (fun i wr => AfO (fT ms) ns nl P w2 i wr) (fun i _ => nl - (intOf i).toNat)
  case atStart => exact HL0.out
  case round =>
    obtain ⟨j, hj, rfl, hf, hst, hbr⟩ := hrel
    have HF := Lib.hid hf
    have HST := Lib.hid hst
    have HBR := Lib.hid hbr
    clear hf hst hbr HL0
    by_cases hlt : j < nl
    · obtain ⟨t, hn⟩ : ∃ t, ns[j]? = some t := ⟨ns[j]'(by rw [HNL.out]; exact hlt), List.getElem?_eq_getElem _⟩
      have htf := (HMEM.out t).1 (List.mem_of_getElem? hn)
      have htl : t < tn := by rw [← htn, HMN.out]; exact HOK.out.fol HX.out htf
      obtain ⟨mt, hmt⟩ : ∃ mt, ms[t]? = some mt := ⟨ms[t]'(by rw [htn]; exact htl), List.getElem?_eq_getElem _⟩
      have hmtl := HLT.out t mt hmt
      obtain ⟨g, go, rfl, hgP, hgl, hgc⟩ := HNAT.out j t hn
      obtain ⟨tb, tO, pa, pc, rfl, htb, hrc, hrb⟩ := HT2.out.2 t (flB mt) (by rw [List.getElem?_map, hmt]; rfl)
      rw [flB_len] at hrc
      obtain ⟨a, ha⟩ : ∃ a, orT (fT ms) 0 (ns.take j) = a := ⟨_, rfl⟩
      have hal : a < 16384 := by
        rw [← ha]
        exact orT_lt _ _ _ (by omega) fun t _ => fT_lt HLT.out t
      have HSUM : Hid (orT (fT ms) 0 (ns.take (j + 1)) = a ||| mt) := by
        show _ = _
        rw [List.take_add_one, hn]
        exact (orT_snoc _ _ _ _).trans (by rw [ha, fT_at hmt])
      rw [ha] at HF
      have HGC := Lib.hid hgc
      have HRC := Lib.hid hrc
      have HRB := Lib.hid hrb
      have HI0 : Hid (AfI a mt P w2 (.int .i64 0) wr) := ⟨0, Nat.zero_le _, rfl, HF.out, HST.out, HBR.out⟩
      have htI : (t : Int) < tn := by omega
      have hjI : (j : Int) < nl := by omega
      clear hn htf hmt ha hgc hrc hrb HF HST HBR
      go_wp2_with fail
      go_loopw [10] (fun i wr => AfI a mt P w2 i wr) (fun i _ => 14 - (intOf i).toNat)
      case atStart => exact HI0.out
      case round =>
        obtain ⟨r, hr, rfl, hf, hst, hbr⟩ := hrel
        have HF := Lib.hid hf
        have HST := Lib.hid hst
        have HBR := Lib.hid hbr
        clear hf hst hbr HI0
        by_cases hlr : r < 14
        · have hrI : (r : Int) < 14 := by omega
          have o0 := HF.out.get hlr
          have ofz := World.ownsRow.frozenAt HF.out r
          rw [mx_bit hal r r hr, if_neg (by omega)] at o0
          have g0 : wr.cell? ⟨g, go + j, none⟩ = some (.int .i64 (t : Int)) := (World.cell?_of_block (w := w2) (a := ⟨g, go + j, none⟩) (HST.out g (by omega) hgl)).trans HGC.out
          have r0 : wr.cell? ⟨tb, tO + t, none⟩ = some (.slice pa 14 pc) := (World.cell?_of_block (w := w2) (a := ⟨tb, tO + t, none⟩) (HST.out tb (by omega) (by omega))).trans HRC.out
          obtain ⟨qb, qO, rfl, hqb, hqc⟩ := HRB.out.2 r _ (flB_at mt hlr)
          have q0 : wr.cell? ⟨qb, qO + r, none⟩ = some (.bool (mt.testBit r)) := (World.cell?_of_block (w := w2) (a := ⟨qb, qO + r, none⟩) (HST.out qb (by omega) (by omega))).trans hqc
          have HREL : Hid (∀ v, (a.testBit r || mt.testBit r) = v → AfI a mt P w2 (.int .i64 ((r : Int) + 1)) (wr.setCell ⟨P, r, none⟩ (.bool v))) := fun v hv => by
            refine ⟨r + 1, hlr, by go_num, ?_, fun g h1 h2 => (Below.heap_setCell _ _ _ _ (by simpa using h1)).trans (HST.out g h1 h2), HBR.out.setCell (p := ⟨P, r, none⟩) (Nat.le_refl _) _⟩
            show FlO _ P (sb (mx a mt r) r (a.testBit r || mt.testBit r))
            rw [hv]
            exact HF.out.setv (mx_lt hal r hr) hlr v
          obtain ⟨p, hp⟩ : ∃ p, a.testBit r = p := ⟨_, rfl⟩
          obtain ⟨q, hq⟩ : ∃ q, mt.testBit r = q := ⟨_, rfl⟩
          rw [hp] at o0
          rw [hq] at q0
          rw [hp, hq] at HREL
          clear hp hq hqc
          cases p
          case true =>
            have HR2 := Lib.hid (HREL.out true rfl)
            clear HREL HF HBR
            go_wp2_with fail
            go_roundw
            case rel => exact HR2.out
            case measure => simp [intOf]; omega
          case false =>
            have HR2 := Lib.hid (HREL.out q rfl)
            clear HREL HF HBR
            go_wp2_with fail
            go_roundw
            case rel => exact HR2.out
            case measure => simp [intOf]; omega
        · obtain rfl : r = 14 := by omega
          have HREL : Hid (AfO (fT ms) ns nl P w2 (.int .i64 ((j : Int) + 1)) wr) := ⟨j + 1, hlt, by go_num, by rw [HSUM.out, ← mx_all hal hmtl]; exact HF.out, HST.out, HBR.out⟩
          clear HF HBR HST
          go_wp2_with fail
          go_roundw
          case rel => exact HREL.out
          case measure => simp [intOf]; omega
    · obtain rfl : j = nl := by omega
      have hf := HF.out
      rw [List.take_of_length_le (by rw [HNL.out]; exact Nat.le_refl _), orT_perm HMEM.out] at hf
      have HFIN := Lib.hid (flg_of hf hwP (HB2.out.trans (HBR.out.mono hwP)))
      clear hf HF HBR HST
      go_wp2_with fail
      go_ret
      exact HFIN.out

end Go.Proofs.YtbifbmpflhdijaaDoor

namespace Go.Proofs.YtbifbmpflhdijaaDoor
open Go.RowKit
set_option linter.unusedVariables false

set_option maxRecDepth 100000 in
set_option maxHeartbeats 4000000 in
/-- **spec.l12Same.** -/
theorem l12Same_one (a b : Nat) (ta ra : Option Addr) (tc rc : Nat) (w : World) (ht : BAt w (fun b => b < w.heap.size) (flB a) ta) (hr : BAt w (fun b => b < w.heap.size) (flB b) ra) (ha : a < 16384) (hb : b < 16384) :
    Calls Tryd.prog 92 #[.slice ta 14 tc, .slice ra 14 rc] w (fun e w' => e = .returned (.bool (decide (a = b))) ∧ Below w.heap.size w w') := by
  have HT := Lib.hid ht
  have HR := Lib.hid hr
  have HALL : Hid ((∀ r, r < 14 → a.testBit r = b.testBit r) → decide (a = b) = true) := fun h => decide_eq_true (flB_inj ha hb (flB_ext (flB_len a) fun i hi => by rw [flB_at a hi, h i hi]))
  have HNO : Hid (∀ r, a.testBit r ≠ b.testBit r → decide (a = b) = false) := fun r h => decide_eq_false fun e => h (by rw [e])
  obtain ⟨d, hd⟩ : ∃ d, decide (a = b) = d := ⟨_, rfl⟩
  rw [hd] at HALL HNO ⊢
  clear ht hr ha hb hd
  go_enter Tryd.func92, Tryd.ntmps92
  go_wp2_with fail
  go_loopw [5] (fun i wr => ∃ j : Nat, j ≤ 14 ∧ i = .int .i64 (j : Int) ∧ Hid (∀ r, r < j → a.testBit r = b.testBit r) ∧ Below w.heap.size w wr) (fun i _ => 14 - (intOf i).toNat)
  case atStart => exact ⟨0, Nat.zero_le _, rfl, (fun r hr => absurd hr (Nat.not_lt_zero _)), Below.refl _ _⟩
  case round =>
    obtain ⟨j, hj, rfl, HE, hb⟩ := hrel
    have HB := Lib.hid hb
    have ht := HT.out.below hb
    have hr := HR.out.below hb
    clear hb
    by_cases hlt : j < 14
    · obtain ⟨tb, tO, rfl, _, q0⟩ := ht.2 j _ (flB_at a hlt)
      obtain ⟨rb, rO, rfl, _, q1⟩ := hr.2 j _ (flB_at b hlt)
      have hjI : (j : Int) < 14 := by omega
      obtain ⟨p, hp⟩ : ∃ p, a.testBit j = p := ⟨_, rfl⟩
      obtain ⟨q, hq⟩ : ∃ q, b.testBit j = q := ⟨_, rfl⟩
      rw [hp] at q0
      rw [hq] at q1
      have HP := Lib.hid hp
      have HQ := Lib.hid hq
      clear hp hq HT HR ht hr
      by_cases hpq : p = q
      · have HS2 : Hid (∀ r, r < j + 1 → a.testBit r = b.testBit r) := fun r hr => by
          by_cases e : r = j
          · rw [e, HP.out, HQ.out]; exact hpq
          · exact HE.out r (by omega)
        subst hpq
        have hbe : (p != p) = false := by simp
        have hbe2 : (!(p == p)) = false := by cases p <;> rfl
        clear HE
        go_wp2_with fail
        go_quiet (fail)
        go_wp2_with fail
        go_roundw
        case rel => exact ⟨j + 1, by omega, by go_num, HS2, below_drewN HB.out _⟩
        case measure => simp [intOf]; omega
      · have HF := Lib.hid (HNO.out j (by rw [HP.out, HQ.out]; exact hpq))
        have hbe : (p != q) = true := by simpa using hpq
        have hbe2 : (!(p == q)) = true := by revert hpq; cases p <;> cases q <;> simp
        clear hpq HE
        go_wp2_with fail
        go_quiet (fail)
        go_wp2_with fail
        go_ret
        exact ⟨by rw [HF.out]; rfl, below_drewN HB.out _⟩
    · obtain rfl : j = 14 := by omega
      have HF := Lib.hid (HALL.out HE.out)
      clear HE HT HR ht hr
      go_wp2_with fail
      go_ret
      exact ⟨by rw [HF.out]; rfl, HB.out⟩

end Go.Proofs.YtbifbmpflhdijaaDoor

namespace Go.Proofs.YtbifbmpflhdijaaDoor
open Go.RowKit
set_option linter.unusedVariables false

/-- The masks of the rows of a live map. -/
def lvMs (rs : List (List Bool)) : List Nat := rs.map fun r => regN r 14
theorem lvMs_len (rs : List (List Bool)) : (lvMs rs).length = rs.length := by simp [lvMs]
theorem lvMs_at {rs : List (List Bool)} {i : Nat} {r : List Bool} (h : rs[i]? = some r) : (lvMs rs)[i]? = some (regN r 14) := by simp [lvMs, h]
theorem regN_lt14 (r : List Bool) : regN r 14 < 16384 := Nat.lt_pow_two_of_testBit (n := 14) _ fun b hb => by
  rw [regN_bit r 14 b (by omega), decide_eq_false (by omega)]; rfl
theorem lvMs_lt (rs : List (List Bool)) : Lt14 (lvMs rs) := fun i m h => by
  unfold lvMs at h
  rw [List.getElem?_map] at h
  obtain ⟨r, _, rfl⟩ := Option.map_eq_some_iff.1 h
  exact regN_lt14 r
/-- The first j rows are of the right length. -/
def RowsL (rs : List (List Bool)) (j : Nat) : Prop := ∀ (i : Nat) (r : List Bool), i < j → rs[i]? = some r → r.length = 14
theorem RowsL.succ {rs : List (List Bool)} {j : Nat} {r : List Bool} (h : RowsL rs j) (hr : rs[j]? = some r) (e : r.length = 14) : RowsL rs (j + 1) := fun i q hi hq => by
  by_cases hk : i = j
  · subst hk
    rw [hr] at hq
    cases hq
    exact e
  · exact h i q (by omega) hq
/-- What CheckLive answers. -/
structure CkL (m : Cd) (rs : List (List Bool)) : Prop where
  ok : codeB m = true
  len : rs.length = m.list.length
  rows : RowsL rs rs.length
  cov : ClosedL m.list (fT (lvMs rs))
def AnsL (m : Cd) (rs : List (List Bool)) (w : World) (e : Ending) (w' : World) : Prop := ∃ b, e = .returned (.bool b) ∧ (b = true ↔ CkL m rs) ∧ Below w.heap.size w w'
theorem AnsL.no {m : Cd} {rs : List (List Bool)} {w w' : World} (h : ¬ CkL m rs) (hb : Below w.heap.size w w') : AnsL m rs w (.returned (.bool false)) w' := ⟨false, rfl, ⟨fun e => (by cases e), fun e => absurd e h⟩, hb⟩
theorem AnsL.yes {m : Cd} {rs : List (List Bool)} {w w' : World} (h : CkL m rs) (hb : Below w.heap.size w w') : AnsL m rs w (.returned (.bool true)) w' := ⟨true, rfl, ⟨fun _ => h, fun _ => rfl⟩, hb⟩
/-- A live map is sufficient as far as the first j instructions go. -/
def ClTo (l : List Ins) (T : Nat → Nat) (j : Nat) : Prop := ∀ (i : Nat) (x : Ins), i < j → l[i]? = some x → Sub (ned T i x) (T i)
theorem ClTo.succ {l : List Ins} {T : Nat → Nat} {j : Nat} {x : Ins} (h : ClTo l T j) (hx : l[j]? = some x) (e : Sub (ned T j x) (T j)) : ClTo l T (j + 1) := fun i y hi hy => by
  by_cases hk : i = j
  · subst hk
    rw [hx] at hy
    cases hy
    exact e
  · exact h i y (by omega) hy
theorem ClTo.all {l : List Ins} {T : Nat → Nat} (h : ClTo l T l.length) : ClosedL l T := fun i x hx => h i x (List.getElem?_eq_some_iff.1 hx).1 hx

set_option maxRecDepth 100000 in
set_option maxHeartbeats 4000000 in
/-- **sufficient.** -/
theorem suff_one {nv na : Nat} (l : List Ins) (ms : List Nat) (la ra : Option Addr) (n lc rc : Nat) (w : World) (h : NAt w (fun b => b < w.heap.size) l la) (hn : l.length = n) (hok : Okc l) (hr : RsAt w (fun b => b < w.heap.size) ms ra) (hmn : ms.length = n) (hlt : Lt14 ms) (hit : ∀ (i : Nat) (x : Ins), l[i]? = some x → InsT nv na x) :
    Calls Tryd.prog 64 #[.agg (arrL la ra n lc rc)] w (fun e w' => ∃ b, e = .returned (.bool b) ∧ (b = true ↔ ClosedL l (fT ms)) ∧ Below w.heap.size w w') := by
  obtain ⟨W, hW⟩ : ∃ W, w.alloc (.cells (arrL la ra n lc rc) 62) = W := ⟨_, rfl⟩
  have hB : Below w.heap.size w W := by rw [← hW]; exact (Below.refl _ w).alloc (Nat.le_refl _) _
  have hbx : W.heap[w.heap.size]? = some (.cells (arrL la ra n lc rc) 62 (0, 0)) := by rw [← hW]; exact heap_alloc_new w _
  have x1 : W.cell? ⟨w.heap.size, 1, none⟩ = some (.slice ra n rc) := by rw [cell_at hbx]; rfl
  have HS : Hid (∀ v, Below W.heap.size W v → v.cell? ⟨w.heap.size, 0, none⟩ = some (.slice la n lc) ∧ v.cell? ⟨w.heap.size, 1, none⟩ = some (.slice ra n rc) ∧ RsAt v (fun b => b < v.heap.size) ms ra) := fun v hv => by
    have h1 := (hv.block _ (Array.getElem?_eq_some_iff.1 hbx).1).trans hbx
    exact ⟨by rw [cell_at h1]; rfl, by rw [cell_at h1]; rfl, hr.wide (fun k hk => (hB.trans (hv.mono hB.size)).block k hk) fun k hk => Nat.lt_of_lt_of_le hk (hB.trans (hv.mono hB.size)).size⟩
  have HND : Hid (∀ v, Below W.heap.size W v → ∀ (i : Nat) (x : Ins), l[i]? = some x → Calls Tryd.prog 94 #[.agg #[.slice la n lc, .slice ra n rc], .int .i64 (i : Int)] v (SetB (ned (fT ms) i x) v)) := fun v hv i x hx =>
    have hb := hB.trans (hv.mono hB.size)
    needed_one l ms la ra n lc rc i x v (h.below hb) hn hok (hr.wide (fun k hk => hb.block k hk) fun k hk => Nat.lt_of_lt_of_le hk hb.size) hmn hlt hx (hit i x hx)
  have HNL : Hid (∀ (i : Nat) (x : Ins), l[i]? = some x → ned (fT ms) i x < 16384) := fun i x hx => bef_lt (hit i x hx) (orT_lt _ _ _ (by omega) fun t _ => fT_lt hlt t)
  have HLT := Lib.hid hlt
  have HN := Lib.hid hn
  have HMN := Lib.hid hmn
  have HW := Lib.hid hW
  have HB := Lib.hid hB
  have hle : n ≤ 400 := by rw [← hn]; exact hok.le
  have HL0 : Hid (∃ j : Nat, j ≤ n ∧ Value.int .i64 0 = .int .i64 (j : Int) ∧ ClTo l (fT ms) j ∧ Below W.heap.size W W) := ⟨0, Nat.zero_le _, rfl, fun i x hi => absurd hi (Nat.not_lt_zero _), Below.refl _ _⟩
  clear h hn hok hr hmn hlt hit hW hB hbx
  unfold arrL at HW
  go_enter Tryd.func64, Tryd.ntmps64
  go_wp2_with (first | rw [HW.out] | fail)
  clear x1
  go_loopw [8] (fun i wr => ∃ j : Nat, j ≤ n ∧ i = .int .i64 (j : Int) ∧ ClTo l (fT ms) j ∧ Below W.heap.size W wr) (fun i _ => n - (intOf i).toNat)
  case atStart => exact HL0.out
  case round =>
    obtain ⟨j, hj, rfl, hcl, hb⟩ := hrel
    have HCL := Lib.hid hcl
    have HBR := Lib.hid hb
    clear hcl hb HL0
    by_cases hlt : j < n
    · obtain ⟨x, hx⟩ : ∃ x, l[j]? = some x := ⟨l[j]'(by rw [HN.out]; exact hlt), List.getElem?_eq_getElem _⟩
      obtain ⟨mj, hmj⟩ : ∃ mj, ms[j]? = some mj := ⟨ms[j]'(by rw [HMN.out]; exact hlt), List.getElem?_eq_getElem _⟩
      obtain ⟨c0, c1, hrs⟩ := HS.out wr HBR.out
      obtain ⟨b, o, hra, _, cr⟩ := hrs j mj hmj
      have HND1 := Lib.hid (HND.out wr HBR.out j x hx)
      have hml : mj < 32768 := by have := HLT.out j mj hmj; omega
      have hnl : ned (fT ms) j x < 32768 := by have := HNL.out j x hx; omega
      have hfj := fT_at hmj
      obtain ⟨nd, hnd⟩ : ∃ nd, ned (fT ms) j x = nd := ⟨_, rfl⟩
      rw [hnd] at HND1 hnl
      have HX := Lib.hid hx
      have HZ := Lib.hid hnd
      have HFJ := Lib.hid hfj
      have hjI : (j : Int) < n := by omega
      subst hra
      by_cases hs : Sub nd mj
      · have hcv := covn_no hml hnl hs
        have HREL : Hid (ClTo l (fT ms) (j + 1)) := HCL.out.succ HX.out (by rw [HZ.out, HFJ.out]; exact hs)
        clear hs hx hmj hrs hfj hnd HND HCL hml hnl
        go_wp2_with fail
        refine HND1.out.mono ?_
        rintro e w2 ⟨rfl, hb2⟩
        have HB2 : Hid (Below W.heap.size W w2) := HBR.out.trans (hb2.mono HBR.out.size)
        clear HND1 hb2
        go_wp2_with fail
        go_roundw
        case rel => exact ⟨j + 1, hlt, by go_num, HREL.out, HB2.out⟩
        case measure => simp [intOf]; omega
      · have hcv := covn_yes hml hnl hs
        have HNO : Hid (¬ ClosedL l (fT ms)) := fun hc => hs (by have := hc j x HX.out; rw [HZ.out, HFJ.out] at this; exact this)
        clear hs hx hmj hrs hfj hnd HND HCL hml hnl
        go_wp2_with fail
        refine HND1.out.mono ?_
        rintro e w2 ⟨rfl, hb2⟩
        have HB2 : Hid (Below w.heap.size w w2) := HB.out.trans ((HBR.out.trans (hb2.mono HBR.out.size)).mono HB.out.size)
        clear HND1 hb2
        go_wp2_with fail
        go_ret
        exact ⟨false, rfl, ⟨fun e => (by cases e), fun e => absurd e HNO.out⟩, HB2.out⟩
    · obtain rfl : j = n := by omega
      have HC : Hid (ClosedL l (fT ms)) := ClTo.all (by rw [HN.out]; exact HCL.out)
      have HB2 : Hid (Below w.heap.size w wr) := HB.out.trans (HBR.out.mono HB.out.size)
      clear HCL HND
      go_wp2_with fail
      go_ret
      exact ⟨true, rfl, ⟨fun _ => HC.out, fun _ => rfl⟩, HB2.out⟩

end Go.Proofs.YtbifbmpflhdijaaDoor

namespace Go.Proofs.YtbifbmpflhdijaaDoor
open Go.RowKit
set_option linter.unusedVariables false

theorem flB_rowB {m : Nat} (hm : m < 16384) : rowB (m ||| 16384) = flB m := by
  have h0 : m ||| 16384 ≠ 0 := bit_ne (b := 14) (by rw [Nat.testBit_or, bit14]; simp)
  refine (rowB_ext h0 (flB_len m) fun i hi => ?_).symm
  rw [flB_at m hi, Nat.testBit_or, bit14, decide_eq_false (by omega), Bool.or_false]
theorem sub_or14 {a m : Nat} (ha : a < 16384) (hm : m < 16384) : Sub (a ||| 16384) (m ||| 16384) ↔ Sub a m := by
  constructor
  · intro h b hb
    have h1 := h b (by rw [Nat.testBit_or, hb]; rfl)
    rw [Nat.testBit_or, bit14] at h1
    by_cases e : b = 14
    · subst e; rw [bit_lt14 ha (by omega)] at hb; cases hb
    · rw [decide_eq_false e, Bool.or_false] at h1; exact h1
  · intro h b hb
    rw [Nat.testBit_or] at hb ⊢
    revert hb
    cases h1 : a.testBit b
    · intro hb; rw [Bool.false_or] at hb; rw [hb, Bool.or_true]
    · intro _; rw [h b h1]; rfl
/-- l9Below at rows of flags. -/
theorem sBelF_one (a mk : Nat) (ta ra : Option Addr) (tc rc : Nat) (w : World) {D D' : Nat → Prop} (ht : BAt w D (flB a) ta) (hr : BAt w D' (flB mk) ra) (ha : a < 16384) (hm : mk < 16384) :
    Calls Tryd.prog 59 #[.slice ta 14 tc, .slice ra 14 rc] w (fun e w' => ∃ b, e = .returned (.bool b) ∧ (b = true ↔ Sub a mk) ∧ w' = w) := by
  have h14 : ∀ z : Nat, (z ||| 16384).testBit 14 = true := fun z => by rw [Nat.testBit_or, bit14]; simp
  have hlt : ∀ z : Nat, z < 16384 → z ||| 16384 < 32768 := fun z hz => Nat.or_lt_two_pow (n := 15) (by omega) (by omega)
  have h := sBel_one (a ||| 16384) (mk ||| 16384) ta ra tc 14 rc w (D := D) (D' := D') (by rw [flB_rowB ha]; exact ht) (by rw [flB_rowB hm]; exact hr) (hlt a ha) (h14 a) ⟨hlt mk hm, .inr (h14 mk)⟩ (by rw [flB_rowB hm]; exact flB_len mk)
  refine h.mono ?_
  rintro e w' ⟨b, rfl, hb, rfl⟩
  exact ⟨b, rfl, hb.trans (sub_or14 ha hm), rfl⟩
theorem codeB_op {m : Cd} (h : codeB m = true) {i : Nat} {x : Ins} (hx : m.list[i]? = some x) : 1 ≤ x.op ∧ x.op ≤ 13 := by
  unfold codeB at h
  simp only [Bool.and_eq_true] at h
  have h1 := List.all_eq_true.1 h.2.1 x (List.mem_of_getElem? hx)
  unfold insB at h1
  simp only [Bool.and_eq_true, decide_eq_true_eq] at h1
  exact h1.1
theorem flB_regN {r : List Bool} (h : r.length = 14) : flB (regN r 14) = r := by
  refine (flB_ext h fun i hi => ?_).symm
  rw [regN_bit r 14 i (by omega), List.getD_eq_getElem?_getD, List.getElem?_eq_getElem (by omega)]
  simp [hi]
theorem lvMs_row {rs : List (List Bool)} (h : RowsL rs rs.length) : (lvMs rs).map flB = rs := by
  unfold lvMs
  rw [List.map_map]
  refine (List.map_congr_left fun r hr => ?_).trans (List.map_id _)
  obtain ⟨i, hi, rfl⟩ := List.mem_iff_getElem.1 hr
  exact flB_regN (h i _ hi (List.getElem?_eq_getElem hi))
theorem FlgN.parts {z : Nat} {w w' : World} {a : Option Addr} {c : Nat} (h : OwnB w' w.heap.size (.slice a 14 c) ((List.range 14).map z.testBit)) : BAt w' (fun b => b < w'.heap.size) (flB z) a := h.bat.2.2.2.wide (fun _ _ => rfl) fun _ hk => hk.2

set_option maxRecDepth 100000 in
set_option maxHeartbeats 8000000 in
/-- **spec.CheckLive.** -/
theorem sCL_one (m : Cd) (k : CK) (rs : List (List Bool)) (ta : Option Addr) (tn tc : Nat) (w : World) (h : CL w m k) (hb : BBs w (fun b => b < w.heap.size) rs ta) (htn : rs.length = tn) :
    Calls Tryd.prog 24 #[aggC m k, .slice ta tn tc] w (AnsL m rs w) := by
  obtain ⟨W, hW⟩ : ∃ W, w.alloc (.cells (arrC m k) 29) = W := ⟨_, rfl⟩
  have hB : Below w.heap.size w W := by rw [← hW]; exact (Below.refl _ w).alloc (Nat.le_refl _) _
  have hX : BoxC W w.heap.size m k := by rw [← hW]; exact BoxC.new _ _ _ _
  have H : Hid (∀ v, Below W.heap.size W v → BoxC v w.heap.size m k ∧ CL v m k ∧ BBs v (fun b => b < v.heap.size) rs ta) := fun v hv => ⟨hX.below hv hX.lt, (h.below hB).below hv, (hb.below hB).below hv⟩
  have c0 := hX.c0
  have c1 := hX.c1
  have c2 := hX.c2
  have HW := Lib.hid hW
  have HB := Lib.hid hB
  have HTN := Lib.hid htn
  unfold arrC at HW
  have HV := Lib.hid (sCV_one m k W (h.below hB))
  clear h hb hB hX hW htn
  go_enter Tryd.func24, Tryd.ntmps24
  go_wp2_with (first | rw [HW.out] | fail)
  refine HV.out.mono ?_
  rintro e w2 ⟨rfl, hb2⟩
  have HB2 : Hid (Below w.heap.size w w2) := HB.out.trans (hb2.mono HB.out.size)
  have HL2 : Hid (Below W.heap.size W w2) := hb2
  have hz2 := hb2.size
  have hz0 := HB.out.size
  obtain ⟨q, hq⟩ : ∃ q, codeB m = q := ⟨_, rfl⟩
  have HQ := Lib.hid hq
  rw [hq]
  clear hb2 hq HV c0 c1 c2
  cases q
  case false =>
    have HF : Hid (AnsL m rs w (.returned (.bool false)) w2) := AnsL.no (fun e => by have := e.ok; rw [HQ.out] at this; cases this) HB2.out
    go_wp2_with fail
    go_ret
    exact HF.out
  case true =>
    obtain ⟨n, hn⟩ : ∃ n, m.list.length = n := ⟨_, rfl⟩
    have HN := Lib.hid hn
    have HO := Lib.hid (codeB_ok HQ.out)
    have hle : n ≤ 400 := by rw [← hn]; exact HO.out.le
    have hpos : 1 ≤ n := by rw [← hn]; exact HO.out.pos
    have x2 : w2.cell? ⟨w.heap.size, 2, none⟩ = some (.slice k.la n k.lc) := by rw [← hn]; exact (H.out w2 HL2.out).1.c2
    clear hn
    by_cases hne : tn = n
    · subst hne
      go_wp2_with fail
      clear x2
      go_loopw [5] (fun i wr => ∃ j : Nat, j ≤ tn ∧ i = .int .i64 (j : Int) ∧ Hid (RowsL rs j) ∧ wr = w2) (fun i _ => tn - (intOf i).toNat)
      case atStart => exact ⟨0, Nat.zero_le _, rfl, (fun i r hi => absurd hi (Nat.not_lt_zero _) : RowsL rs 0), by first | rfl | trivial⟩
      case round =>
        obtain ⟨j, hj, rfl, HTO, rfl⟩ := hrel
        by_cases hlt : j < tn
        · obtain ⟨r2, hr2⟩ : ∃ r, rs[j]? = some r := ⟨rs[j]'(by rw [HTN.out]; exact hlt), List.getElem?_eq_getElem _⟩
          obtain ⟨tb', tO', pa, pc, rfl, htb2, hpc2, hpb2⟩ := (H.out _ HL2.out).2.2.2 j r2 hr2
          obtain ⟨r2l, hr2l⟩ : ∃ rl, r2.length = rl := ⟨_, rfl⟩
          rw [hr2l] at hpc2
          have HR2 := Lib.hid hr2
          have HR2L := Lib.hid hr2l
          clear hr2 hr2l hpb2
          by_cases h14 : r2l = 14
          · have HT2 : Hid (RowsL rs (j + 1)) := HTO.out.succ HR2.out (HR2L.out.trans h14)
            subst h14
            go_wp2_with fail
            go_roundw
            case rel => exact ⟨j + 1, by omega, by go_num, HT2, trivial⟩
            case measure => simp [intOf]; omega
          · have d1 : ((r2l : Int) != 14) = true := by simp; omega
            have HF : Hid (AnsL m rs w (.returned (.bool false)) wr) := AnsL.no (fun e => by
              have := e.rows j r2 (by rw [HTN.out]; exact hlt) HR2.out
              rw [HR2L.out] at this
              omega) HB2.out
            clear h14
            go_wp2_with fail
            go_ret
            exact HF.out
        · obtain rfl : j = tn := by omega
          have hrows : RowsL rs rs.length := by rw [HTN.out]; exact HTO.out
          have HROWS := Lib.hid hrows
          have HRB := Lib.hid (lvMs_row hrows)
          obtain ⟨ms, hms⟩ : ∃ ms, lvMs rs = ms := ⟨_, rfl⟩
          have HMS := Lib.hid hms
          have HLT : Hid (∀ (i q : Nat), ms[i]? = some q → q < 16384) := by rw [← hms]; exact lvMs_lt rs
          have HML : Hid (ms.length = j) := by show ms.length = j; rw [← hms, lvMs_len]; exact HTN.out
          rw [hms] at HRB
          have HIT : Hid (∀ (i : Nat) (x : Ins), m.list[i]? = some x → InsT m.vars.length m.arrs.length x ∧ 1 ≤ x.op ∧ x.op ≤ 13) := fun i x hx => ⟨codeB_ins HQ.out hx, codeB_op HQ.out hx⟩
          obtain ⟨n, hnn⟩ : ∃ n, n = j := ⟨_, rfl⟩
          subst hnn
          obtain ⟨w3, hw3⟩ : ∃ w3, wr = w3 := ⟨_, rfl⟩
          have HW3 := Lib.hid hw3
          rw [hw3] at HL2 HB2
          have HL0 : Hid (∃ j : Nat, j ≤ n ∧ Value.int .i64 0 = .int .i64 (j : Int) ∧ ClTo m.list (fT ms) j ∧ Below w3.heap.size w3 w3) := ⟨0, Nat.zero_le _, rfl, (fun i x hi => absurd hi (Nat.not_lt_zero _)), Below.refl _ _⟩
          have hz3 : W.heap.size ≤ w3.heap.size := by rw [← hw3]; exact hz2
          clear hrows hms HTO hw3
          go_wp2_with fail
          rw [HW3.out]
          clear HW3
          go_loopw [6] (fun i wr => ∃ j : Nat, j ≤ n ∧ i = .int .i64 (j : Int) ∧ ClTo m.list (fT ms) j ∧ Below w3.heap.size w3 wr) (fun i _ => n - (intOf i).toNat)
          case atStart => exact HL0.out
          case round =>
            obtain ⟨j, hj, rfl, hcv, hb⟩ := hrel
            have HCO := Lib.hid hcv
            have HBR := Lib.hid hb
            have HWR : Hid (Below W.heap.size W wr) := HL2.out.trans (hb.mono HL2.out.size)
            obtain ⟨hbx, hcl, hbs⟩ := H.out wr HWR.out
            have hbsz := hb.size
            clear hcv hb HL0
            by_cases hjn : j < n
            · obtain ⟨x, hx⟩ : ∃ x, m.list[j]? = some x := ⟨m.list[j]'(by rw [HN.out]; exact hjn), List.getElem?_eq_getElem _⟩
              obtain ⟨mj, hmj⟩ : ∃ mj, ms[j]? = some mj := ⟨ms[j]'(by rw [HML.out]; exact hjn), List.getElem?_eq_getElem _⟩
              have hrj : rs[j]? = some (flB mj) := by rw [← HRB.out, List.getElem?_map, hmj]; rfl
              obtain ⟨tb, tO, pa, pc, rfl, htb3, hpc, hpb⟩ := hbs.2 j (flB mj) hrj
              rw [flB_len] at hpc
              obtain ⟨bi, oi, hla, hbil, e0, e1, e2, e3, e4⟩ := hcl.2.2.2 j x hx
              have HX := Lib.hid hx
              have hxt := HIT.out j x hx
              have hmjl := HLT.out j mj hmj
              have hAl : orT (fT ms) 0 (folN x j) < 16384 := orT_lt _ _ _ (by omega) fun t _ => fT_lt HLT.out t
              have hBl : bef x (orT (fT ms) 0 (folN x j)) < 16384 := bef_lt hxt.1 hAl
              have HFJ := Lib.hid (fT_at hmj)
              have HSB : Hid (∀ v, Below wr.heap.size wr v → v.cell? ⟨w.heap.size, 0, none⟩ = some (.slice k.va m.vars.length k.vc) ∧ v.cell? ⟨w.heap.size, 1, none⟩ = some (.slice k.aa m.arrs.length k.ac) ∧ v.cell? ⟨w.heap.size, 2, none⟩ = some (.slice (some ⟨bi, oi, none⟩) n k.lc) ∧ v.cell? ⟨bi, oi + j * 5, none⟩ = some (.int .i64 x.op) ∧ v.cell? ⟨bi, oi + j * 5 + 1, none⟩ = some (.int .i64 x.fa) ∧ v.cell? ⟨bi, oi + j * 5 + 2, none⟩ = some (.int .i64 x.fb) ∧ v.cell? ⟨bi, oi + j * 5 + 3, none⟩ = some (.int .i64 x.fc) ∧ v.cell? ⟨bi, oi + j * 5 + 4, none⟩ = some (.int .i64 x.fd) ∧ v.cell? ⟨tb, tO + j, none⟩ = some (.slice pa 14 pc)) := fun v hv => by
                have b := hbx.below hv hbx.lt
                have b2 := b.c2
                rw [hla, HN.out] at b2
                have hI : ∀ o, v.cell? ⟨bi, o, none⟩ = wr.cell? ⟨bi, o, none⟩ := fun o => World.cell?_of_block (w := wr) (a := ⟨bi, o, none⟩) (hv.block bi hbil)
                exact ⟨b.c0, b.c1, b2, (hI _).trans e0, (hI _).trans e1, (hI _).trans e2, (hI _).trans e3, (hI _).trans e4, (World.cell?_of_block (w := wr) (a := ⟨tb, tO + j, none⟩) (hv.block tb htb3)).trans hpc⟩
              have HAF : Hid (∀ v, Below wr.heap.size wr v → Calls Tryd.prog 61 #[.agg #[.slice k.va m.vars.length k.vc, .slice k.aa m.arrs.length k.ac, .slice (some ⟨bi, oi, none⟩) n k.lc], .slice (some ⟨tb, tO, none⟩) n tc, .int .i64 (j : Int)] v (FlgN (orT (fT ms) 0 (folN x j)) v)) := fun v hv => by
                have hw := H.out v (HWR.out.trans (hv.mono HWR.out.size))
                have h9 := l12After_one m k ms (some ⟨tb, tO, none⟩) n tc j x v hw.2.1 HO.out HX.out (by rw [HRB.out]; exact hw.2.2) (by rw [HML.out, HN.out]) HLT.out HML.out
                unfold aggC at h9
                rw [hla, HN.out] at h9
                exact h9
              obtain ⟨A, hA⟩ : ∃ A, orT (fT ms) 0 (folN x j) = A := ⟨_, rfl⟩
              rw [hA] at HAF hAl hBl
              have HBF : Hid (∀ v (a : Option Addr) (c : Nat), BAt v (fun b => b < v.heap.size) (flB A) a → Calls Tryd.prog 60 #[.agg #[.int .i64 x.op, .int .i64 x.fa, .int .i64 x.fb, .int .i64 x.fc, .int .i64 x.fd], .slice a 14 c] v (FlgN (bef x A) v)) := fun v a c h => l12Before_one x A a c v hxt.1 hxt.2.1 hxt.2.2 hAl h
              have HND : Hid (ned (fT ms) j x = bef x A) := by show bef x (orT (fT ms) 0 (folN x j)) = _; rw [hA]
              obtain ⟨B, hBB⟩ : ∃ B, bef x A = B := ⟨_, rfl⟩
              rw [hBB] at HBF HND hBl
              have HBE : Hid (∀ v (a a' : Option Addr) (c c' : Nat), BAt v (fun b => b < v.heap.size) (flB B) a → BAt v (fun b => b < v.heap.size) (flB mj) a' → Calls Tryd.prog 59 #[.slice a 14 c, .slice a' 14 c'] v (fun e w' => ∃ b, e = .returned (.bool b) ∧ (b = true ↔ Sub B mj) ∧ w' = v)) := fun v a a' c c' h h' => sBelF_one B mj a a' c c' v h h' hBl hmjl
              have HPB : Hid (∀ v, Below wr.heap.size wr v → BAt v (fun b => b < v.heap.size) (flB mj) pa) := fun v hv => hpb.below hv
              have hS1 := HSB.out wr (Below.refl _ _)
              have HBD : Below wr.heap.size wr wr.drew := (Below.refl _ _).drew
              have hSd := HSB.out wr.drew HBD
              have hjI : (j : Int) < n := by omega
              obtain ⟨y0, y1, y2, y3, y4, y5, y6, y7, y8⟩ := hS1
              clear hx hmj hrj hpc hpb hla e0 e1 e2 e3 e4 hxt hmjl hAl hBl hA hBB hbx hcl hbs
              go_wp2_with fail
              go_region_held3 (fun v => v.cell? ⟨w.heap.size, 0, none⟩ = some (.slice k.va m.vars.length k.vc) ∧ v.cell? ⟨w.heap.size, 1, none⟩ = some (.slice k.aa m.arrs.length k.ac) ∧ v.cell? ⟨w.heap.size, 2, none⟩ = some (.slice (some ⟨bi, oi, none⟩) n k.lc) ∧ v.cell? ⟨bi, oi + j * 5, none⟩ = some (.int .i64 x.op) ∧ v.cell? ⟨bi, oi + j * 5 + 1, none⟩ = some (.int .i64 x.fa) ∧ v.cell? ⟨bi, oi + j * 5 + 2, none⟩ = some (.int .i64 x.fb) ∧ v.cell? ⟨bi, oi + j * 5 + 3, none⟩ = some (.int .i64 x.fc) ∧ v.cell? ⟨bi, oi + j * 5 + 4, none⟩ = some (.int .i64 x.fd) ∧ v.cell? ⟨tb, tO + j, none⟩ = some (.slice pa 14 pc)) (first | (with_reducible assumption) | (with_reducible exact hSd))
                (first
                | (go_at_call 61; (with_reducible refine (HAF.out _ HBD).mono ?_)
                   rintro e w4 ⟨a4, c4, rfl, ho4, hb4⟩
                   have hB4 : Below wr.heap.size wr w4 := HBD.trans (hb4.mono HBD.size)
                   have hS4 := HSB.out w4 hB4)
                | (go_at_call 60; (with_reducible refine (HBF.out w4 a4 c4 (FlgN.parts ho4)).mono ?_)
                   rintro e w5 ⟨a5, c5, rfl, ho5, hb5⟩
                   have hB5 : Below wr.heap.size wr w5 := hB4.trans (hb5.mono hB4.size)
                   have hS5 := HSB.out w5 hB5)
                | (go_at_call 59; (with_reducible refine (HBE.out w5 a5 pa c5 pc (FlgN.parts ho5) (HPB.out w5 hB5)).mono ?_)
                   rintro e w6 ⟨b, rfl, hbb, hw6⟩
                   subst hw6)
                | fail)
              cases b
              case false =>
                have HNS : Hid (¬ Sub B mj) := fun e => by have := hbb.2 e; cases this
                have HF : Hid (AnsL m rs w (.returned (.bool false)) w6) := AnsL.no (fun e => HNS.out (by
                  have h1 := e.cov j x HX.out
                  rw [HMS.out, HND.out, HFJ.out] at h1
                  exact h1)) (HB2.out.trans ((HBR.out.trans (hB5.mono hbsz)).mono (by omega)))
                clear hbb
                go_wp2_with fail
                go_ret
                exact HF.out
              case true =>
                have HREL : Hid (∃ q : Nat, q ≤ n ∧ Value.int .i64 ((j : Int) + 1) = .int .i64 (q : Int) ∧ ClTo m.list (fT ms) q ∧ Below w3.heap.size w3 w6) := ⟨j + 1, hjn, by go_num, HCO.out.succ HX.out (by rw [HND.out, HFJ.out]; exact hbb.1 rfl), HBR.out.trans (hB5.mono hbsz)⟩
                clear hbb
                go_wp2_with fail
                go_roundw
                case rel => exact HREL.out
                case measure => simp [intOf]; omega
            · obtain rfl : j = n := by omega
              have HF : Hid (AnsL m rs w (.returned (.bool true)) wr) := AnsL.yes ⟨HQ.out, by rw [HTN.out, HN.out], HROWS.out, by rw [HMS.out]; exact ClTo.all (by rw [HN.out]; exact HCO.out)⟩ (HB2.out.trans (HBR.out.mono (by omega)))
              clear HCO hbx hcl hbs
              go_wp2_with fail
              go_ret
              exact HF.out
    · have hneI : ((tn : Int) != (n : Int)) = true := by simp; omega
      have HF : Hid (AnsL m rs w (.returned (.bool false)) w2) := AnsL.no (fun e => hne (by rw [← HTN.out, ← HN.out]; exact e.len)) HB2.out
      clear hne
      go_wp2_with fail
      go_ret
      exact HF.out

end Go.Proofs.YtbifbmpflhdijaaDoor

namespace Go.Proofs.YtbifbmpflhdijaaDoor
open Go.RowKit
set_option linter.unusedVariables false

theorem OwBB.made (w : World) (base : Nat) (hb : base ≤ w.heap.size) : OwBB (w.alloc (.cells #[] 47)) base [] (some ⟨w.heap.size, 0, none⟩) 0 0 [] :=
  ⟨rfl, ⟨by simp, .inr ⟨w.heap.size, 0, _, rfl, hb, heap_alloc_new w _, Nat.le_refl _, by unfold maxLen; omega, by simp, by simp⟩⟩, fun i r hr => by simp at hr, fun i v g hv => by simp at hv, fun i j v u g hv => by simp at hv⟩
/-- The first loop's state. -/
def LqO (n B : Nat) (w0 : World) (lv i : Value) (wr : World) : Prop := ∃ (j : Nat) (a : Option Addr) (c : Nat) (vs : List Value), j ≤ n ∧ i = .int .i64 (j : Int) ∧ lv = .slice a j c ∧ OwBB wr B ((List.replicate j 0).map flB) a j c vs ∧ Below w0.heap.size w0 wr
/-- The state between the rounds, and its measure. -/
def LqM (l : List Ins) (n S c B : Nat) (w0 : World) (s : Value × World) (mm : Nat) : Prop := ∃ (ms : List Nat) (vs : List Value) (ch : Bool), s.1 = .bool ch ∧ OwBB s.2 B (ms.map flB) (some ⟨S, 0, none⟩) n c vs ∧ LB l ms ∧ (ch = false → IsL l ms) ∧ Below w0.heap.size w0 s.2 ∧ mm = if ch = true then 15 * n - pcS ms + 1 else 0
/-- The state within a round. -/
def LqR (l : List Ins) (ms0 : List Nat) (n S c B : Nat) (w0 : World) (cv i : Value) (wr : World) : Prop := ∃ (ms : List Nat) (vs : List Value) (ch : Bool) (k : Nat), k ≤ n ∧ i = .int .i64 ((k : Int) - 1) ∧ cv = .bool ch ∧ OwBB wr B (ms.map flB) (some ⟨S, 0, none⟩) n c vs ∧ LR l ms0 ms ch k ∧ Below w0.heap.size w0 wr
/-- The least map, in new rows. -/
def LqN (l : List Ins) (n : Nat) (w : World) (e : Ending) (w' : World) : Prop := ∃ ms a c vs, e = .returned (.slice a n c) ∧ IsL l ms ∧ OwBB w' w.heap.size (ms.map flB) a n c vs ∧ Below w.heap.size w w'

set_option maxRecDepth 100000 in
set_option maxHeartbeats 8000000 in
/-- **spec.l12Live.** -/
theorem l12Live_one (m : Cd) (k : CK) (w : World) (h : CL w m k) (hok : Okc m.list) (hit : ∀ (i : Nat) (x : Ins), m.list[i]? = some x → InsT m.vars.length m.arrs.length x ∧ 1 ≤ x.op ∧ x.op ≤ 13) :
    Calls Tryd.prog 52 #[aggC m k] w (LqN m.list m.list.length w) := by
  obtain ⟨i0, hi, hz0, hz1, hz2⟩ := info_parts Tryd.infoBB
  obtain ⟨b0, hbi, hbz0, hbz1, hbz2⟩ := info_parts Tryd.infoB
  obtain ⟨W, hW⟩ : ∃ W, w.alloc (.cells (arrC m k) 29) = W := ⟨_, rfl⟩
  have hB : Below w.heap.size w W := by rw [← hW]; exact (Below.refl _ w).alloc (Nat.le_refl _) _
  have hX : BoxC W w.heap.size m k := by rw [← hW]; exact BoxC.new _ _ _ _
  have H : Hid (∀ v, Below W.heap.size W v → BoxC v w.heap.size m k ∧ CL v m k) := fun v hv => ⟨hX.below hv hX.lt, (h.below hB).below hv⟩
  obtain ⟨n, hn⟩ : ∃ n, m.list.length = n := ⟨_, rfl⟩
  have c2 := hX.c2
  have hle : n ≤ 400 := by rw [← hn]; exact hok.le
  have hpos : 1 ≤ n := by rw [← hn]; exact hok.pos
  have HW := Lib.hid hW
  have HB := Lib.hid hB
  have HN := Lib.hid hn
  have HO := Lib.hid hok
  have HIT := Lib.hid hit
  unfold arrC at HW
  obtain ⟨W2, hW2⟩ : ∃ W2, W.alloc (.cells #[] 47) = W2 := ⟨_, rfl⟩
  have hbW2 : Below W.heap.size W W2 := by rw [← hW2]; exact (Below.refl _ _).alloc (Nat.le_refl _) _
  have HL0 : Hid (LqO n W.heap.size W (.slice (some ⟨W.heap.size, 0, none⟩) 0 0) (.int .i64 0) W2) := ⟨0, _, 0, [], Nat.zero_le _, rfl, rfl, by rw [← hW2]; exact OwBB.made W _ (Nat.le_refl _), hbW2⟩
  have HW2 := Lib.hid hW2
  have hwW := hB.size
  rw [hn] at c2 ⊢
  clear h hB hX hW hn hok hit hW2 hbW2
  go_enter Tryd.func52, Tryd.ntmps52
  go_wp2_with (first | rw [HW.out] | fail)
  rw [HW2.out]
  clear c2
  go_loopw [3, 4] (fun lv i wr => LqO n W.heap.size W lv i wr) (fun _ i _ => n - (intOf i).toNat)
  case atStart => exact HL0.out
  case round =>
    obtain ⟨j, a, c, vs, hj, rfl, rfl, hbb, hb⟩ := hrel
    have HBB := Lib.hid hbb
    have HBR := Lib.hid hb
    have hzr := hb.size
    have c2 := (H.out wr hb).1.c2
    rw [HN.out] at c2
    clear hbb hb HL0
    by_cases hlt : j < n
    · have hjI : (j : Int) < n := by omega
      go_wp2_with (first
        | (at_make
           refine wpList_make_full _ rfl _ _ 47 rfl wr.heap.size 4 b0 (.bool false) 1 Tryd.underlying47 hbi hbz0 hbz1 .i64 .i64 14 14 14 rfl rfl rfl rfl (by rw [hbz2]; omega) (by unfold maxLen; omega) (Nat.le_refl _) ?_
           intro w5 hown5 hgrow5
           rw [falses, ← flB_0] at hown5
           have hb5 : Below wr.heap.size wr w5 := (Below.refl _ wr).grown hgrow5 (Nat.le_refl _) (fun k e => (by cases e))
           obtain ⟨V3, hV3⟩ : ∃ V3, w5.alloc (.cells #[.slice (some ⟨wr.heap.size, 0, none⟩) 14 14] 47) = V3 := ⟨_, rfl⟩
           have hbV : Below w5.heap.size w5 V3 := (by rw [← hV3]; exact (Below.refl _ _).alloc (Nat.le_refl _) _)
           have hz53 : V3.heap.size = w5.heap.size + 1 := (by rw [← hV3]; simp)
           have hblk : V3.heap[w5.heap.size]? = some (.cells #[.slice (some ⟨wr.heap.size, 0, none⟩) 14 14] 47 (0, 0)) := (by rw [← hV3]; exact heap_alloc_new w5 _)
           have hbrV : Below wr.heap.size wr V3 := hb5.trans (hbV.mono hb5.size)
           have hr3 : V3.ownsRow W.heap.size 47 1 (.slice a j c) j vs := ownsRow_far HBB.out.row fun g _ hl => hbrV.block g hl
           have HOF : Hid (OwnB V3 wr.heap.size (.slice (some ⟨wr.heap.size, 0, none⟩) 14 14) (flB 0)) := (by
             have h1 : OwnB w5 wr.heap.size (.slice (some ⟨wr.heap.size, 0, none⟩) 14 14) (flB 0) := (by unfold OwnB; rw [flB_len]; exact hown5)
             exact h1.far fun g _ hl => hbV.block g hl)
           have HBV := Lib.hid hbrV
           have HV3 := Lib.hid hV3
           have hzw5 := hb5.size
           clear hown5 hgrow5 hb5 hbV hbrV hV3)
        | (at_builtin
           rw [HV3.out]
           refine wpList_append_lies _ (by rfl) _ _ 36 (by rfl) W.heap.size 47 i0 _ 1 24 Tryd.underlying36 hi hz0 hz1 hz2 rfl (by omega) (.slice a j c) j _ (by rfl) hr3 ⟨w5.heap.size, 0, none⟩ 1 1 _ (by rfl) (by rfl) (World.news_of_block hblk) (by simp [Value.oneCell']) (by omega) (by unfold maxLen; omega) (by omega) (by omega) (w5.heap.size + 1) (by omega) ?_
           intro g5 cp w7 hown7 hgrow hat hlt7
           have HREL : Hid (LqO n W.heap.size W (.slice (some ⟨g5, 0, none⟩) (j + 1) cp) (.int .i64 ((j : Int) + 1)) w7) := ⟨j + 1, _, cp, _, hlt, by go_num, rfl, by
             have e1 : (List.replicate (j + 1) 0).map flB = (List.replicate j 0).map flB ++ [flB 0] := by rw [List.replicate_succ', List.map_append]; rfl
             rw [e1]
             exact HBB.out.push HBV.out HOF.out (flB_len _) hzr hown7 hgrow (by rcases hat with h | h; exact .inl h; exact .inr (by omega)), (HBR.out.trans (HBV.out.mono hzr)).grown hgrow (by omega) (fun t ht => (hr3.lt t ht).1)⟩
           clear hown7 hgrow hat hblk hr3)
        | fail)
      go_roundw
      case rel => exact HREL.out
      case measure => simp [intOf]; omega
    · obtain rfl : j = n := by omega
      obtain ⟨r0, hr0⟩ : ∃ r, ((List.replicate j 0).map flB)[0]? = some r := ⟨_, List.getElem?_eq_getElem (by simp; omega)⟩
      obtain ⟨S, _, _, rfl, hSB, _, _⟩ := HBB.out.at hr0
      obtain ⟨mu, hmu⟩ := mu_ex (σ := Value × World) (LqM m.list j S c W.heap.size W)
      have HMU := Lib.hid hmu
      have hS0 : LqM m.list j S c W.heap.size W (.bool true, wr) (15 * j - pcS (List.replicate j 0) + 1) := by
        have h1 := LB.start m.list
        rw [HN.out] at h1
        exact ⟨_, vs, true, rfl, HBB.out, h1, fun e => (by cases e), HBR.out, by simp⟩
      have HREL0 : Hid (∃ mm, LqM m.list j S c W.heap.size W (.bool true, wr) mm) := ⟨_, hS0⟩
      obtain ⟨n, hnn⟩ : ∃ n, n = j := ⟨_, rfl⟩
      subst hnn
      clear hmu hS0 HBB HBR hr0
      go_wp2_with fail
      clear c2
      go_loopw [5] (fun cv U => ∃ mm, LqM m.list n S c W.heap.size W (cv, U) mm) (fun cv U => mu (cv, U))
      case atStart => exact HREL0.out
      case round =>
        obtain ⟨⟨ms0, vs0, ch, hcv, hbb, hlb, hdn, hb, hm⟩, hmin⟩ := HMU.out (u5, wr) hrel
        simp only at hcv hbb hb
        have HBB := Lib.hid hbb
        have HLB := Lib.hid hlb
        have HDN := Lib.hid hdn
        have HBR := Lib.hid hb
        have HM := Lib.hid hm
        subst hcv
        have c2 := (H.out wr hb).1.c2
        rw [HN.out] at c2
        clear hrel hbb hlb hdn hb hm hmin HREL0
        cases ch
        case false =>
          have HFIN : Hid (LqN m.list n w (.returned (.slice (some ⟨S, 0, none⟩) n c)) wr) := ⟨ms0, _, c, vs0, rfl, HDN.out rfl, HBB.out.monoL hwW, HB.out.trans (HBR.out.mono hwW)⟩
          clear HBB HBR HMU
          go_wp2_with fail
          go_ret
          exact HFIN.out
        case true =>
          have HR0 : Hid (LqR m.list ms0 n S c W.heap.size W (.bool false) (.int .i64 ((n : Int) - 1)) wr) := ⟨ms0, vs0, false, n, Nat.le_refl _, rfl, rfl, HBB.out, by have h1 := LR.start HLB.out; rw [HN.out] at h1; exact h1, HBR.out⟩
          clear HBB HLB HBR HDN
          go_wp2_with fail
          clear c2
          go_loopw [5, 6] (fun cv i U => LqR m.list ms0 n S c W.heap.size W cv i U) (fun _ i _ => (intOf i + 1).toNat)
          case atStart => exact HR0.out
          case round =>
            obtain ⟨ms, vs2, ch, k', hk, rfl, rfl, hbb, hlr, hb⟩ := hrel
            have HBB := Lib.hid hbb
            have HLR := Lib.hid hlr
            have HBR := Lib.hid hb
            obtain ⟨hbx, hcl⟩ := H.out wr hb
            have hzr := hb.size
            clear hbb hlr hb HR0
            cases k'
            case zero =>
              have hneg : ((0 : Nat) : Int) - 1 = -1 := by omega
              rw [hneg]
              have hrel' : LqM m.list n S c W.heap.size W (.bool ch, wr) (if ch = true then 15 * n - pcS ms + 1 else 0) := ⟨ms, vs2, ch, rfl, HBB.out, HLR.out.lb, fun e => by subst e; exact HLR.out.done, HBR.out, rfl⟩
              have HREL := Lib.hid hrel'
              have HMS : Hid (mu (.bool ch, wr) < 15 * n - pcS ms0 + 1) := by
                have h1 := (HMU.out _ ⟨_, hrel'⟩).2 _ hrel'
                have h2 := pcS_bd HLR.out.lb
                rw [HN.out] at h2
                show mu (.bool ch, wr) < _
                cases ch
                · rw [if_neg (by simp)] at h1; omega
                · rw [if_pos rfl] at h1
                  have h3 := HLR.out.grew rfl
                  omega
              clear hrel' HBB HLR HBR HMU hbx hcl
              go_wp2_with fail
              go_roundw
              case rel => exact ⟨_, HREL.out⟩
              case measure => rw [HM.out]; simpa using HMS.out
            case succ p =>
              have hpI : ((p + 1 : Nat) : Int) - 1 = (p : Int) := by omega
              rw [hpI]
              have hpn : p < n := by omega
              obtain ⟨x, hx⟩ : ∃ x, m.list[p]? = some x := ⟨m.list[p]'(by rw [HN.out]; exact hpn), List.getElem?_eq_getElem _⟩
              have hmlen : ms.length = n := by rw [← HN.out]; exact HLR.out.lb.len
              obtain ⟨mj, hmj⟩ : ∃ mj, ms[p]? = some mj := ⟨ms[p]'(by rw [hmlen]; exact hpn), List.getElem?_eq_getElem _⟩
              have hrj : (ms.map flB)[p]? = some (flB mj) := by rw [List.getElem?_map, hmj]; rfl
              obtain ⟨S', pa, pc, hSe, _, hSl, hvs, hpc, hpb⟩ := HBB.out.at hrj
              cases hSe
              rw [flB_len] at hpc hvs hpb
              obtain ⟨bi, oi, hla, hbil, e0, e1, e2, e3, e4⟩ := hcl.2.2.2 p x hx
              obtain ⟨hxt, hx1, hx2⟩ := HIT.out p x hx
              have hlt14 := HLR.out.lb.lt
              have hmjl := hlt14 p mj hmj
              have hAl : orT (fT ms) 0 (folN x p) < 16384 := orT_lt _ _ _ (by omega) fun t _ => fT_lt hlt14 t
              have hBl : bef x (orT (fT ms) 0 (folN x p)) < 16384 := bef_lt hxt hAl
              have HSB : Hid (∀ v, Below wr.heap.size wr v → v.cell? ⟨w.heap.size, 0, none⟩ = some (.slice k.va m.vars.length k.vc) ∧ v.cell? ⟨w.heap.size, 1, none⟩ = some (.slice k.aa m.arrs.length k.ac) ∧ v.cell? ⟨w.heap.size, 2, none⟩ = some (.slice (some ⟨bi, oi, none⟩) n k.lc) ∧ v.cell? ⟨bi, oi + p * 5, none⟩ = some (.int .i64 x.op) ∧ v.cell? ⟨bi, oi + p * 5 + 1, none⟩ = some (.int .i64 x.fa) ∧ v.cell? ⟨bi, oi + p * 5 + 2, none⟩ = some (.int .i64 x.fb) ∧ v.cell? ⟨bi, oi + p * 5 + 3, none⟩ = some (.int .i64 x.fc) ∧ v.cell? ⟨bi, oi + p * 5 + 4, none⟩ = some (.int .i64 x.fd)) := fun v hv => by
                have b := hbx.below hv hbx.lt
                have b2 := b.c2
                rw [hla, HN.out] at b2
                have hI : ∀ o, v.cell? ⟨bi, o, none⟩ = wr.cell? ⟨bi, o, none⟩ := fun o => World.cell?_of_block (w := wr) (a := ⟨bi, o, none⟩) (hv.block bi hbil)
                exact ⟨b.c0, b.c1, b2, (hI _).trans e0, (hI _).trans e1, (hI _).trans e2, (hI _).trans e3, (hI _).trans e4⟩
              have HAF : Hid (∀ v, Below wr.heap.size wr v → Calls Tryd.prog 61 #[.agg #[.slice k.va m.vars.length k.vc, .slice k.aa m.arrs.length k.ac, .slice (some ⟨bi, oi, none⟩) n k.lc], .slice (some ⟨S, 0, none⟩) n c, .int .i64 (p : Int)] v (FlgN (orT (fT ms) 0 (folN x p)) v)) := fun v hv => by
                have hbbv : BBs v (fun b => b < v.heap.size) (ms.map flB) (some ⟨S, 0, none⟩) := ((HBB.out.later hv).bbs (by omega)).wide (fun _ _ => rfl) fun _ h => h.2
                have h9 := l12After_one m k ms (some ⟨S, 0, none⟩) n c p x v (hcl.below hv) HO.out hx hbbv (by rw [hmlen, HN.out]) hlt14 hmlen
                unfold aggC at h9
                rw [hla, HN.out] at h9
                exact h9
              obtain ⟨A, hA⟩ : ∃ A, orT (fT ms) 0 (folN x p) = A := ⟨_, rfl⟩
              rw [hA] at HAF hAl hBl
              have HBF : Hid (∀ v (a : Option Addr) (c : Nat), BAt v (fun b => b < v.heap.size) (flB A) a → Calls Tryd.prog 60 #[.agg #[.int .i64 x.op, .int .i64 x.fa, .int .i64 x.fb, .int .i64 x.fc, .int .i64 x.fd], .slice a 14 c] v (FlgN (bef x A) v)) := fun v a c h => l12Before_one x A a c v hxt hx1 hx2 hAl h
              have HND : Hid (ned (fT ms) p x = bef x A) := by show bef x (orT (fT ms) 0 (folN x p)) = _; rw [hA]
              obtain ⟨B, hBB⟩ : ∃ B, bef x A = B := ⟨_, rfl⟩
              rw [hBB] at HBF HND hBl
              have HSA : Hid (∀ v (a a' : Option Addr) (c c' : Nat), BAt v (fun b => b < v.heap.size) (flB B) a → BAt v (fun b => b < v.heap.size) (flB mj) a' → Calls Tryd.prog 92 #[.slice a 14 c, .slice a' 14 c'] v (fun e w' => e = .returned (.bool (decide (B = mj))) ∧ Below v.heap.size v w')) := fun v a a' c c' h h' => l12Same_one B mj a a' c c' v h h' hBl hmjl
              have HPB : Hid (∀ v, Below wr.heap.size wr v → v.cell? ⟨S, p, none⟩ = some (.slice pa 14 pc) ∧ BAt v (fun b => b < v.heap.size) (flB mj) pa) := fun v hv => ⟨(World.cell?_of_block (w := wr) (a := ⟨S, p, none⟩) (hv.block S hSl)).trans hpc, (hpb.bat.2.2.2.wide (fun g hg => hv.block g hg.2) fun g hg => Nat.lt_of_lt_of_le hg.2 hv.size)⟩
              have hBD : Below wr.heap.size wr wr.drew := (Below.refl _ _).drew
              have hSd := HSB.out wr.drew hBD
              have HX := Lib.hid hx
              have HMJ := Lib.hid hmj
              have HMT := Lib.hid (fT_at hmj)
              clear hx hmj hrj hpc hpb hla e0 e1 e2 e3 e4 hxt hx1 hx2 hlt14 hmjl hAl hBl hA hBB hbx hcl hvs
              go_wp2_with fail
              go_region_held3 (fun v => v.cell? ⟨w.heap.size, 0, none⟩ = some (.slice k.va m.vars.length k.vc) ∧ v.cell? ⟨w.heap.size, 1, none⟩ = some (.slice k.aa m.arrs.length k.ac) ∧ v.cell? ⟨w.heap.size, 2, none⟩ = some (.slice (some ⟨bi, oi, none⟩) n k.lc) ∧ v.cell? ⟨bi, oi + p * 5, none⟩ = some (.int .i64 x.op) ∧ v.cell? ⟨bi, oi + p * 5 + 1, none⟩ = some (.int .i64 x.fa) ∧ v.cell? ⟨bi, oi + p * 5 + 2, none⟩ = some (.int .i64 x.fb) ∧ v.cell? ⟨bi, oi + p * 5 + 3, none⟩ = some (.int .i64 x.fc) ∧ v.cell? ⟨bi, oi + p * 5 + 4, none⟩ = some (.int .i64 x.fd)) (first | (with_reducible assumption) | (with_reducible exact hSd))
                (first
                | (go_at_call 61; (with_reducible refine (HAF.out _ hBD).mono ?_)
                   rintro e w4 ⟨a4, c4, rfl, ho4, hb4⟩
                   have hB4 : Below wr.heap.size wr w4 := hBD.trans (hb4.mono hBD.size)
                   have hS4 := HSB.out w4 hB4)
                | (go_at_call 60; (with_reducible refine (HBF.out w4 a4 c4 (FlgN.parts ho4)).mono ?_)
                   rintro e w5 ⟨a5, c5, rfl, ho5, hb5⟩
                   have hB5 : Below wr.heap.size wr w5 := hB4.trans (hb5.mono hB4.size)
                   have hS5 := HSB.out w5 hB5)
                | fail)
              obtain ⟨hc5, hp5⟩ := HPB.out w5 hB5
              have HS5 := Lib.hid (HSA.out w5 a5 pa c5 pc (FlgN.parts ho5) hp5)
              have HO5 : Hid (OwnB w5 wr.heap.size (.slice a5 14 c5) (flB B)) := OwnB.monoB (show OwnB w5 w4.heap.size (.slice a5 14 c5) (flB B) from ho5) hB4.size
              have HB5 := Lib.hid hB5
              clear hS5 hS4 hSd hB4 hB5 hb4 hb5 ho4 ho5 hp5 hBD HSB HAF HBF HSA HPB
              go_wp2_with fail
              refine HS5.out.mono ?_
              rintro e w6 ⟨rfl, hb6⟩
              have hB6 : Below wr.heap.size wr w6 := HB5.out.trans (hb6.mono HB5.out.size)
              have HB6 := Lib.hid hB6
              have HO6 : Hid (OwnB w6 wr.heap.size (.slice a5 14 c5) (flB B)) := HO5.out.far fun g _ hl => hb6.block g hl
              have HBB6 := Lib.hid (HBB.out.later hB6)
              have hc6 : (w6.cell? ⟨S, p, none⟩).isSome = true := by
                have h1 := HBB6.out.row.cellAt p (by omega)
                rw [h1, List.getElem?_eq_getElem (by rw [HBB6.out.vlen]; exact hpn)]; rfl
              obtain ⟨v6, hv6⟩ := Option.isSome_iff_exists.1 hc6
              have hf6 := HBB6.out.row.frozenAt p
              clear hc5 hb6 hB6 hc6 HS5 HO5 HB5
              by_cases hd : B = mj
              · rw [show decide (B = mj) = true from decide_eq_true hd]
                have HREL : Hid (LqR m.list ms0 n S c W.heap.size W (.bool ch) (.int .i64 ((p : Int) - 1)) w6) := ⟨ms, vs2, ch, p, by omega, rfl, rfl, HBB6.out, HLR.out.skip HX.out (by rw [HND.out, HMT.out]; exact hd), HBR.out.trans (HB6.out.mono hzr)⟩
                clear hd HBB HLR HBR HMU
                go_wp2_with fail
                go_roundw
                case rel => exact HREL.out
                case measure => simp [intOf]
              · rw [show decide (B = mj) = false from decide_eq_false hd]
                have HREL : Hid (LqR m.list ms0 n S c W.heap.size W (.bool true) (.int .i64 ((p : Int) - 1)) (w6.setCell ⟨S, p, none⟩ (.slice a5 14 c5))) := by
                  have h1 := HBB.out.put (i := p) (by omega) HB6.out HO6.out (flB_len _) hzr
                  have h2 := HLR.out.grow HO.out (HIT.out p x HX.out).1 HX.out HMJ.out (by rw [HND.out]; exact hd)
                  rw [HND.out] at h2
                  rw [← List.map_set] at h1
                  exact ⟨ms.set p B, _, true, p, by omega, rfl, rfl, h1, h2, (HBR.out.trans (HB6.out.mono hzr)).setCell (p := ⟨S, p, none⟩) hSB _⟩
                clear hd HBB HLR HBR HMU
                go_wp2_with fail
                go_roundw
                case rel => exact HREL.out
                case measure => simp [intOf]

/-- Rows that say what LiveRegs answers. -/
def SrN (m : Cd) (w : World) (e : Ending) (w' : World) : Prop := ∃ rs a n c, e = .returned (.slice a n c) ∧ LrV m rs ∧ rs.length = n ∧ BBs w' (fun b => b < w'.heap.size) rs a ∧ Below w.heap.size w w'

set_option maxRecDepth 100000 in
set_option maxHeartbeats 4000000 in
/-- **spec.LiveRegs.** -/
theorem sLR_one (m : Cd) (k : CK) (w : World) (h : CL w m k) : Calls Tryd.prog 18 #[aggC m k] w (SrN m w) := by
  obtain ⟨W, hW⟩ : ∃ W, w.alloc (.cells (arrC m k) 29) = W := ⟨_, rfl⟩
  have hB : Below w.heap.size w W := by rw [← hW]; exact (Below.refl _ w).alloc (Nat.le_refl _) _
  have hX : BoxC W w.heap.size m k := by rw [← hW]; exact BoxC.new _ _ _ _
  have H : Hid (∀ v, Below W.heap.size W v → BoxC v w.heap.size m k ∧ CL v m k) := fun v hv => ⟨hX.below hv hX.lt, (h.below hB).below hv⟩
  have c0 := hX.c0
  have c1 := hX.c1
  have c2 := hX.c2
  have HW := Lib.hid hW
  have HB := Lib.hid hB
  unfold arrC at HW
  have HV := Lib.hid (sCV_one m k W (h.below hB))
  clear h hB hX hW
  go_enter Tryd.func18, Tryd.ntmps18
  go_wp2_with (first | rw [HW.out] | fail)
  refine HV.out.mono ?_
  rintro e w2 ⟨rfl, hb2⟩
  have HB2 : Hid (Below w.heap.size w w2) := HB.out.trans (hb2.mono HB.out.size)
  have HL2 : Hid (Below W.heap.size W w2) := hb2
  have hz2 := HB2.out.size
  obtain ⟨q, hq⟩ : ∃ q, codeB m = q := ⟨_, rfl⟩
  have HQ := Lib.hid hq
  rw [hq]
  clear hb2 hq HV c0 c1 c2
  cases q
  case false =>
    go_wp2_with fail
    go_ret
    exact ⟨[], _, _, _, rfl, ⟨fun e => (by rw [HQ.out] at e; cases e), fun _ => rfl⟩, rfl, ⟨Nat.zero_le _, fun i r hr => by simp at hr⟩, HB2.out.alloc hz2 _⟩
  case true =>
    have b2 := (H.out w2 HL2.out).1
    have x0 := b2.c0
    have x1 := b2.c1
    have x2 := b2.c2
    have HLV := Lib.hid (l12Live_one m k w2 (H.out w2 HL2.out).2 (codeB_ok HQ.out) fun i x hx => ⟨codeB_ins HQ.out hx, codeB_op HQ.out hx⟩)
    unfold aggC at HLV
    clear b2
    go_wp2_with fail
    refine HLV.out.mono ?_
    rintro e w3 ⟨ms, a, c, vs, rfl, hil, hbb, hb3⟩
    have HFIN : Hid (SrN m w (.returned (.slice a m.list.length c)) w3) := ⟨_, a, _, c, rfl, ⟨fun _ => ⟨ms, hil, rfl⟩, fun e => (by rw [HQ.out] at e; cases e)⟩, by rw [List.length_map]; exact hil.len, (hbb.bbs (by have := (codeB_ok HQ.out).le; omega)).wide (fun _ _ => rfl) fun _ h => h.2, HB2.out.trans (hb3.mono hz2)⟩
    clear hil hbb hb3 HLV x0 x1 x2
    go_wp2_with fail
    go_ret
    exact HFIN.out

end Go.Proofs.YtbifbmpflhdijaaDoor
