/- The model's l12Kind and l12Regs, walked: the registers that an instruction reads and writes, as two new rows. -/
import Derived.Test.YtbifbmpflhdijaaDoorLvP
import Derived.Test.YtbifbmpflhdijaaDoorAgI
import Derived.StillTailTactics
import Derived.Deep.CutRange
import Derived.Test.YtbifbmpflhdijaaDoorCvS
import Derived.Test.YtbifbmpflhdijaaDoorBlS
import Derived.Test.YtbifbmpflhdijaaDoorBb
import Derived.Test.YtbifbmpflhdijaaDoorTnV
import Derived.Test.YtbifbmpflhdijaaDoorAppA
import Derived.Test.YtbifbmpflhdijaaDoorRcN
import Derived.Test.YtbifbmpflhdijaaDoorUsM1
import Derived.Test.YtbifbmpflhdijaaDoorCdE
import Derived.Test.YtbifbmpflhdijaaDoorCdT
import Derived.Deep.RegionWith
import Derived.Deep.RegionHeld3
namespace Go.Proofs.YtbifbmpflhdijaaDoor
open Go.RowKit
set_option linter.unusedVariables false

/-- What the fields of each operation are: 0 no register, 1 read, 2 written, 3 both. -/
def kkL : List (List Nat) := [[], [2, 0], [2, 0], [0, 1], [2, 0, 1], [0, 1, 1], [2, 0, 1, 1], [2, 1, 1, 1], [0], [1, 0], [3, 0], [1], [], []]
def kkAt (op j : Nat) : Nat := (kkL.getD op []).getD j 0
def kkC (k : Nat) : UInt8 := if k = 1 then 49 else if k = 2 then 50 else if k = 3 then 51 else 48
def kbB (op : Nat) : ByteArray := ⟨((kkL.getD op []).map kkC).toArray⟩
theorem kbB_size (op : Nat) : (kbB op).size = (kkL.getD op []).length := by show ((kkL.getD op []).map kkC).toArray.size = _; simp
theorem kbB_at (op j : Nat) (h : j < (kbB op).size) : (kbB op)[j] = kkC (kkAt op j) := by
  have hj : j < (kkL.getD op []).length := by rw [← kbB_size]; exact h
  show ((kkL.getD op []).map kkC).toArray[j]'(by simpa using hj) = _
  have e : kkAt op j = (kkL.getD op [])[j] := by
    unfold kkAt
    rw [List.getD_eq_getElem?_getD (l := kkL.getD op []), List.getElem?_eq_getElem hj]; rfl
  rw [e]
  simp
theorem kkL_len (op : Nat) : (kkL.getD op []).length ≤ 4 := by
  have hall : ∀ l ∈ kkL, l.length ≤ 4 := by decide
  exact getD_all (fun l : List Nat => l.length ≤ 4) kkL [] (by simp) hall op
theorem kkAt_le (op j : Nat) : kkAt op j ≤ 3 := by
  have hall : ∀ l ∈ kkL, ∀ x ∈ l, x ≤ 3 := by decide
  exact getD_all (fun x => x ≤ 3) _ 0 (by omega) (getD_all (fun l => ∀ x ∈ l, x ≤ 3) kkL [] (by simp) hall op) j

set_option maxHeartbeats 4000000 in
theorem l12Kind_one (op : Nat) (h : op ≤ 13) (w : World) :
    Calls Tryd.prog 76 #[.int .i64 op] w fun e w' => e = .returned (.string (kbB op)) ∧ Below w.heap.size w w' := by
  obtain rfl | rfl | rfl | rfl | rfl | rfl | rfl | rfl | rfl | rfl | rfl | rfl | rfl | rfl : op = 0 ∨ op = 1 ∨ op = 2 ∨ op = 3 ∨ op = 4 ∨ op = 5 ∨ op = 6 ∨ op = 7 ∨ op = 8 ∨ op = 9 ∨ op = 10 ∨ op = 11 ∨ op = 12 ∨ op = 13 := by omega
  all_goals
    go_enter Tryd.func76, Tryd.ntmps76
    go_wp2_with fail
    go_ret
    exact ⟨rfl, (Below.refl _ _).alloc (Nat.le_refl _) _⟩

/-- The masks behind the first j fields. -/
def rK (x : Ins) : Nat → Nat
  | 0 => 0
  | j + 1 => if kkAt x.op.toNat j = 1 ∨ kkAt x.op.toNat j = 3 then sb (rK x j) (x.part j).toNat true else rK x j
def wK (x : Ins) : Nat → Nat
  | 0 => 0
  | j + 1 => if kkAt x.op.toNat j = 2 ∨ kkAt x.op.toNat j = 3 then sb (wK x j) (x.part j).toNat true else wK x j
theorem op_cases {x : Ins} (h1 : 1 ≤ x.op) (h2 : x.op ≤ 13) : x.op = 1 ∨ x.op = 2 ∨ x.op = 3 ∨ x.op = 4 ∨ x.op = 5 ∨ x.op = 6 ∨ x.op = 7 ∨ x.op = 8 ∨ x.op = 9 ∨ x.op = 10 ∨ x.op = 11 ∨ x.op = 12 ∨ x.op = 13 := by omega
theorem rK_all {x : Ins} (h1 : 1 ≤ x.op) (h2 : x.op ≤ 13) : rK x (kkL.getD x.op.toNat []).length = rdM x := by
  rcases op_cases h1 h2 with e | e | e | e | e | e | e | e | e | e | e | e | e <;>
    simp [e, rK, rdM, rdL, kkAt, kkL, setM, Ins.part]
theorem wK_all {x : Ins} (h1 : 1 ≤ x.op) (h2 : x.op ≤ 13) : wK x (kkL.getD x.op.toNat []).length = wrM x := by
  rcases op_cases h1 h2 with e | e | e | e | e | e | e | e | e | e | e | e | e <;>
    simp [e, wK, wrM, wrL, kkAt, kkL, setM, Ins.part]
theorem wrA_of {x : Ins} (h : x.op = 1 ∨ x.op = 11 ∨ x.op = 2 ∨ x.op = 4 ∨ x.op = 6 ∨ x.op = 7) : wrA x = true := by
  unfold wrA
  rcases h with e | e | e | e | e | e <;> rw [e] <;> rfl
theorem part_reg {nv na : Nat} {x : Ins} (h : InsT nv na x) (h1 : 1 ≤ x.op) (h2 : x.op ≤ 13) (j : Nat) (hk : kkAt x.op.toNat j ≠ 0) : 0 ≤ x.part j ∧ x.part j < 14 := by
  have hj : j < 4 := Classical.byContradiction fun hn => hk (by
    unfold kkAt
    rw [List.getD_eq_getElem?_getD (l := kkL.getD x.op.toNat []), List.getElem?_eq_none (by have := kkL_len x.op.toNat; omega)]; rfl)
  have ra := h.ra
  have rb := h.rb
  have rc := h.rc
  have rd := h.rd
  rcases op_cases h1 h2 with e | e | e | e | e | e | e | e | e | e | e | e | e
  all_goals
    have wa := @wrA_of x
    match j, hj with
    | 0, _ | 1, _ | 2, _ | 3, _ =>
      simp [e, kkAt, kkL] at hk <;> simp only [Ins.part] <;> first
        | exact ra (.inl (wa (by omega)))
        | exact ra (by omega)
        | exact rb (by omega)
        | exact rc (by omega)
        | exact rd (by omega)
theorem rK_lt {nv na : Nat} {x : Ins} (h : InsT nv na x) (h1 : 1 ≤ x.op) (h2 : x.op ≤ 13) : ∀ j, rK x j < 16384
  | 0 => by simp [rK]
  | j + 1 => by
    unfold rK
    split
    · rename_i e
      have := part_reg h h1 h2 j (by omega)
      exact sb_lt14 (rK_lt h h1 h2 j) (by omega)
    · exact rK_lt h h1 h2 j
theorem wK_lt {nv na : Nat} {x : Ins} (h : InsT nv na x) (h1 : 1 ≤ x.op) (h2 : x.op ≤ 13) : ∀ j, wK x j < 16384
  | 0 => by simp [wK]
  | j + 1 => by
    unfold wK
    split
    · rename_i e
      have := part_reg h h1 h2 j (by omega)
      exact sb_lt14 (wK_lt h h1 h2 j) (by omega)
    · exact wK_lt h h1 h2 j
theorem flB_set {m r : Nat} {v : Bool} (hm : m < 16384) (hr : r < 14) : (flB m).set r v = flB (sb m r v) := by
  refine flB_ext (by rw [List.length_set, flB_len]) fun i hi => ?_
  by_cases e : i = r
  · subst e
    rw [List.getElem?_set_self (by rw [flB_len]; exact hr), sb_bit (by omega) (by omega), if_pos rfl]
  · rw [List.getElem?_set_ne (fun e' => e e'.symm), flB_at m hi, sb_bit (by omega) (by omega), if_neg e]
theorem flB_0 : flB 0 = List.replicate 14 false := by decide

/-- A row of 14 flags of one's own at the block b. -/
def FlO (w : World) (b m : Nat) : Prop := w.ownsRow b 4 1 (.slice (some ⟨b, 0, none⟩) 14 14) 14 ((flB m).map Value.bool)
theorem FlO.get {w : World} {b m : Nat} (h : FlO w b m) {r : Nat} (hr : r < 14) : w.cell? ⟨b, r, none⟩ = some (.bool (m.testBit r)) := by
  rw [World.ownsRow.cellAt h r hr, List.getElem?_map, flB_at m hr]; rfl
theorem FlO.set {w : World} {b m : Nat} (h : FlO w b m) (hm : m < 16384) {r : Nat} (hr : r < 14) : FlO (w.setCell ⟨b, r, none⟩ (.bool true)) b (sb m r true) := by
  have h1 := (World.ownsRow.stored h r (.bool true)).1
  rw [← List.map_set, flB_set hm hr] at h1
  exact h1
theorem FlO.far {w w' : World} {b m : Nat} (h : FlO w b m) (hs : b < w.heap.size → w'.heap[b]? = w.heap[b]?) : FlO w' b m := by
  refine ⟨h.1, ?_⟩
  rcases h.2 with ⟨e, _⟩ | ⟨g, cp, cur, e, e2, e3, e4⟩
  · cases e
  · injection e with e5 e6 e7
    injection e5 with e5
    injection e5 with e5
    subst e5
    exact .inr ⟨_, cp, cur, by rw [e7], e2, (hs (Array.getElem?_eq_some_iff.1 e3).1).trans e3, e4⟩
theorem FlO.lt {w : World} {b m : Nat} (h : FlO w b m) : b < w.heap.size := (World.ownsRow.lt h b rfl).2
theorem FlO.bat {w : World} {b m : Nat} (h : FlO w b m) : BAt w (fun j => b ≤ j ∧ j < w.heap.size) (flB m) (some ⟨b, 0, none⟩) := by
  have h1 : OwnB w b (.slice (some ⟨b, 0, none⟩) 14 14) (flB m) := by unfold OwnB; rw [flB_len]; exact h
  exact h1.bat.2.2.2

/-- Two new rows: the registers that are read, and those that are written. -/
def RegN (x : Ins) (w : World) (e : Ending) (w' : World) : Prop := ∃ a b, e = .returned (.tuple #[.slice (some ⟨a, 0, none⟩) 14 14, .slice (some ⟨b, 0, none⟩) 14 14]) ∧ FlO w' a (rdM x) ∧ FlO w' b (wrM x) ∧ w.heap.size ≤ a ∧ w.heap.size ≤ b ∧ Below w.heap.size w w'

/-- The state of the loop. -/
def RgL (x : Ins) (W0 : World) (P R pb sl : Nat) (i : Value) (wr : World) : Prop := ∃ j : Nat, j ≤ sl ∧ i = .int .i64 (j : Int) ∧ FlO wr P (rK x j) ∧ FlO wr R (wK x j) ∧ RowP wr pb x ∧ Below P W0 wr

set_option maxRecDepth 100000 in
set_option maxHeartbeats 8000000 in
/-- **spec.l12Regs.** -/
theorem l12Regs_one {nv na : Nat} (x : Ins) (w : World) (hx : InsT nv na x) (h1 : 1 ≤ x.op) (h2 : x.op ≤ 13) :
    Calls Tryd.prog 71 #[aggI x] w (RegN x w) := by
  obtain ⟨b0, hbi, hbz0, hbz1, hbz2⟩ := info_parts Tryd.infoB
  obtain ⟨W, hW⟩ : ∃ W, w.alloc (.cells (arrI x) 50) = W := ⟨_, rfl⟩
  have hB : Below w.heap.size w W := by rw [← hW]; exact (Below.refl _ w).alloc (Nat.le_refl _) _
  have hbx : W.heap[w.heap.size]? = some (.cells (arrI x) 50 (0, 0)) := by rw [← hW]; exact heap_alloc_new w _
  have HX := Lib.hid hx
  have H1 := Lib.hid h1
  have H2 := Lib.hid h2
  have HW := Lib.hid hW
  have HB := Lib.hid hB
  have HBX := Lib.hid hbx
  clear hx hW hB hbx
  unfold arrI at HW
  obtain ⟨op, hop⟩ : ∃ op : Nat, x.op = op := ⟨x.op.toNat, by omega⟩
  have HOP := Lib.hid hop
  have HOPN : Hid (x.op.toNat = op) := by show _ = _; omega
  have hop13 : op ≤ 13 := by omega
  have HB0 : Hid (∀ v, Below W.heap.size W v → v.heap[w.heap.size]? = some (.cells (arrI x) 50 (0, 0))) := fun v hv => (hv.block _ (Array.getElem?_eq_some_iff.1 HBX.out).1).trans HBX.out
  clear h1 h2 hop
  go_enter Tryd.func71, Tryd.ntmps71
  go_upto_region 2 with (first
    | rw [HW.out]
    | (at_make
       refine wpList_make_full _ rfl _ _ 47 rfl W.heap.size 4 b0 (.bool false) 1 Tryd.underlying47 hbi hbz0 hbz1 .i64 .i64 14 14 14 rfl rfl rfl rfl (by rw [hbz2]; omega) (by unfold maxLen; omega) (Nat.le_refl _) ?_
       intro w1 hown1 hgrow1
       rw [falses, ← flB_0] at hown1)
    | fail)
  have HF1 : Hid (FlO w1 W.heap.size 0) := hown1
  have HB1 : Hid (Below W.heap.size W w1) := (Below.refl _ W).grown hgrow1 (Nat.le_refl _) (fun k e => (by cases e))
  clear hown1 hgrow1
  go_upto_region 3 with (first
    | (at_make
       refine wpList_make_full _ rfl _ _ 47 rfl w1.heap.size 4 b0 (.bool false) 1 Tryd.underlying47 hbi hbz0 hbz1 .i64 .i64 14 14 14 rfl rfl rfl rfl (by rw [hbz2]; omega) (by unfold maxLen; omega) (Nat.le_refl _) ?_
       intro w2 hown2 hgrow2
       rw [falses, ← flB_0] at hown2)
    | fail)
  have HF2 : Hid (FlO w2 w1.heap.size 0) := hown2
  have hb12 : Below w1.heap.size w1 w2 := (Below.refl _ w1).grown hgrow2 (Nat.le_refl _) (fun k e => (by cases e))
  have HF1' : Hid (FlO w2 W.heap.size 0) := HF1.out.far fun h => hb12.block _ h
  have hPR : W.heap.size < w1.heap.size := HF1.out.lt
  have HB2 : Hid (Below W.heap.size W w2) := HB1.out.trans (hb12.mono HB1.out.size)
  have HPR := Lib.hid hPR
  have HR2 : Hid (w1.heap.size < w2.heap.size) := HF2.out.lt
  obtain ⟨P, hP⟩ : ∃ P, W.heap.size = P := ⟨_, rfl⟩
  obtain ⟨R, hR⟩ : ∃ R, w1.heap.size = R := ⟨_, rfl⟩
  have HWP := Lib.hid hP
  rw [hP] at HF1' HPR ⊢
  rw [hR] at HF2 HPR HR2 ⊢
  have hi2 := HB0.out w2 HB2.out
  have x0 : w2.cell? ⟨w.heap.size, 0, none⟩ = some (.int .i64 (op : Int)) := by rw [cell_at hi2, ← HOP.out]; rfl
  clear hown2 hgrow2 hb12 HF1 HB1 hPR hP hR hi2
  go_wp2_with fail
  refine (l12Kind_one op hop13 w2).mono ?_
  rintro e w3 ⟨rfl, hb3⟩
  obtain ⟨s, hs⟩ : ∃ s, kbB op = s := ⟨_, rfl⟩
  have HS := Lib.hid hs
  have HB3 : Hid (Below W.heap.size W w3) := HB2.out.trans (hb3.mono HB2.out.size)
  have HF13 : Hid (FlO w3 P 0) := HF1'.out.far fun h => hb3.block _ h
  have HF23 : Hid (FlO w3 R 0) := HF2.out.far fun h => hb3.block _ h
  have hi3 := HB0.out w3 HB3.out
  have y0 : w3.cell? ⟨w.heap.size, 0, none⟩ = some (.int .i64 x.op) := by rw [cell_at hi3]; rfl
  have y1 : w3.cell? ⟨w.heap.size, 1, none⟩ = some (.int .i64 x.fa) := by rw [cell_at hi3]; rfl
  have y2 : w3.cell? ⟨w.heap.size, 2, none⟩ = some (.int .i64 x.fb) := by rw [cell_at hi3]; rfl
  have y3 : w3.cell? ⟨w.heap.size, 3, none⟩ = some (.int .i64 x.fc) := by rw [cell_at hi3]; rfl
  have y4 : w3.cell? ⟨w.heap.size, 4, none⟩ = some (.int .i64 x.fd) := by rw [cell_at hi3]; rfl
  have HR3 : Hid (R < w3.heap.size) := HF23.out.lt
  rw [hs]
  clear hs hb3 hi3 x0 HF1' HF2 HB2 HR2
  go_wp2_with fail
  refine (l6Parts_one x w3).mono ?_
  rintro e w4 ⟨pb, rfl, hrp, hpb, hb4⟩
  have HB4 : Hid (Below W.heap.size W w4) := HB3.out.trans (hb4.mono HB3.out.size)
  have HPB : Hid (R < pb) := by have := HR3.out; show R < pb; omega
  obtain ⟨sl, hsl⟩ : ∃ sl, s.size = sl := ⟨_, rfl⟩
  have HSL := Lib.hid hsl
  have HLEN : Hid ((kkL.getD op []).length = sl) := by rw [← hsl, ← HS.out]; exact (kbB_size op).symm
  have hsl4 : sl ≤ 4 := by rw [← HLEN.out]; exact kkL_len op
  have HL0 : Hid (RgL x w4 P R pb sl (.int .i64 0) w4) := ⟨0, Nat.zero_le _, rfl, HF13.out.far fun h => hb4.block _ h, HF23.out.far fun h => hb4.block _ h, hrp, Below.refl _ _⟩
  clear hrp hpb hb4 y0 y1 y2 y3 y4 HF13 HF23 HB3 HR3
  go_wp2_with fail
  go_loopw [8] (fun i wr => RgL x w4 P R pb sl i wr) (fun i _ => sl - (intOf i).toNat)
  case atStart => exact HL0.out
  case round =>
    obtain ⟨j, hj, rfl, hf1, hf2, hrp, hbr⟩ := hrel
    have HF1 := Lib.hid hf1
    have HF2 := Lib.hid hf2
    have HRP := Lib.hid hrp
    have HBR := Lib.hid hbr
    clear hf1 hf2 hrp hbr HL0
    by_cases hlt : j < sl
    · have hk : j < s.size := by rw [hsl]; exact hlt
      have hsj : s[j] = kkC (kkAt op j) := by
        have e := HS.out
        subst e
        exact kbB_at op j hk
      have hge1 : decide ((s.size : Int) ≤ (j : Int)) = false := by simp; omega
      have hge2 : decide (s.size ≤ j) = false := by simp; omega
      have hkk := kkAt_le op j
      obtain ⟨kk, hkkk⟩ : ∃ kk, kkAt op j = kk := ⟨_, rfl⟩
      rw [hkkk] at hsj hkk
      have HKK : Hid (kkAt x.op.toNat j = kk) := by rw [HOPN.out]; exact hkkk
      have c0 := HRP.out.at j (by omega)
      obtain ⟨z, hz⟩ : ∃ z, x.part j = z := ⟨_, rfl⟩
      rw [hz] at c0
      have HZ := Lib.hid hz
      clear hkkk hz
      have hc : kk = 0 ∨ kk = 1 ∨ kk = 2 ∨ kk = 3 := by omega
      rcases hc with rfl | rfl | rfl | rfl
      · have hsn : (s[j].toNat : Int) = 48 := by rw [hsj]; rfl
        have HREL : Hid (RgL x w4 P R pb sl (.int .i64 ((j : Int) + 1)) wr) := by
          refine ⟨j + 1, hlt, by go_num, ?_, ?_, HRP.out, HBR.out⟩
          · have e : rK x (j + 1) = rK x j := by
              show (if kkAt x.op.toNat j = 1 ∨ kkAt x.op.toNat j = 3 then _ else _) = _
              rw [HKK.out]; rfl
            rw [e]; exact HF1.out
          · have e : wK x (j + 1) = wK x j := by
              show (if kkAt x.op.toNat j = 2 ∨ kkAt x.op.toNat j = 3 then _ else _) = _
              rw [HKK.out]; rfl
            rw [e]; exact HF2.out
        clear hsj
        go_wp2_with fail
        go_roundw
        case rel => exact HREL.out
        case measure => simp [intOf]; omega
      · have hsn : (s[j].toNat : Int) = 49 := by rw [hsj]; rfl
        have hpr := part_reg HX.out H1.out H2.out j (by rw [HKK.out]; omega)
        rw [HZ.out] at hpr
        obtain ⟨q, rfl⟩ : ∃ q : Nat, z = q := ⟨z.toNat, by omega⟩
        have hq14 : q < 14 := by omega
        have hqI : (q : Int) < 14 := by omega
        have HRKL := Lib.hid (rK_lt HX.out H1.out H2.out j)
        have HWKL := Lib.hid (wK_lt HX.out H1.out H2.out j)
        have hPR := HPR.out
        have hRb := HPB.out
        have p0 := HF1.out.get hq14
        have pf := World.ownsRow.frozenAt HF1.out q
        have HW1 : Hid (∀ g, g ≠ P → (wr.setCell ⟨P, q, none⟩ (.bool true)).heap[g]? = wr.heap[g]?) := fun g hg => Below.heap_setCell _ _ _ _ (by simpa using hg)
        have HFA : Hid (FlO (wr.setCell ⟨P, q, none⟩ (.bool true)) P (sb (rK x j) q true)) := HF1.out.set HRKL.out hq14
        have HFB : Hid (FlO (wr.setCell ⟨P, q, none⟩ (.bool true)) R (wK x j)) := HF2.out.far fun _ => HW1.out R (by omega)
        have HRQ : Hid (RowP (wr.setCell ⟨P, q, none⟩ (.bool true)) pb x) := (HW1.out pb (by omega)).trans HRP.out
        have HBQ : Hid (Below P w4 (wr.setCell ⟨P, q, none⟩ (.bool true))) := HBR.out.setCell (p := ⟨P, q, none⟩) (Nat.le_refl _) _
        have c1 := HRQ.out.at j (by omega)
        rw [HZ.out] at c1
        have HREL : Hid (RgL x w4 P R pb sl (.int .i64 ((j : Int) + 1)) (wr.setCell ⟨P, q, none⟩ (.bool true))) := by
          refine ⟨j + 1, hlt, by go_num, ?_, ?_, HRQ.out, HBQ.out⟩
          · have e : rK x (j + 1) = sb (rK x j) (x.part j).toNat true := by
              show (if kkAt x.op.toNat j = 1 ∨ kkAt x.op.toNat j = 3 then _ else _) = _
              rw [HKK.out]; rfl
            rw [e, HZ.out]; exact HFA.out
          · have e : wK x (j + 1) = wK x j := by
              show (if kkAt x.op.toNat j = 2 ∨ kkAt x.op.toNat j = 3 then _ else _) = _
              rw [HKK.out]; rfl
            rw [e]; exact HFB.out
        clear hsj hpr
        go_wp2_with fail
        go_roundw
        case rel => exact HREL.out
        case measure => simp [intOf]; omega
      · have hsn : (s[j].toNat : Int) = 50 := by rw [hsj]; rfl
        have hpr := part_reg HX.out H1.out H2.out j (by rw [HKK.out]; omega)
        rw [HZ.out] at hpr
        obtain ⟨q, rfl⟩ : ∃ q : Nat, z = q := ⟨z.toNat, by omega⟩
        have hq14 : q < 14 := by omega
        have hqI : (q : Int) < 14 := by omega
        have HRKL := Lib.hid (rK_lt HX.out H1.out H2.out j)
        have HWKL := Lib.hid (wK_lt HX.out H1.out H2.out j)
        have hPR := HPR.out
        have hRb := HPB.out
        have HFA : Hid (FlO wr P (rK x j)) := HF1
        have HFB : Hid (FlO wr R (wK x j)) := HF2
        have HRQ : Hid (RowP wr pb x) := HRP
        have HBQ : Hid (Below P w4 wr) := HBR
        have r0 := HFB.out.get hq14
        have rf := World.ownsRow.frozenAt HFB.out q
        have HW2 : Hid (∀ g, g ≠ R → (wr.setCell ⟨R, q, none⟩ (.bool true)).heap[g]? = wr.heap[g]?) := fun g hg => Below.heap_setCell _ _ _ _ (by simpa using hg)
        have HFA2 : Hid (FlO (wr.setCell ⟨R, q, none⟩ (.bool true)) P _) := HFA.out.far fun _ => HW2.out P (by omega)
        have HFB2 : Hid (FlO (wr.setCell ⟨R, q, none⟩ (.bool true)) R (sb (wK x j) q true)) := HFB.out.set HWKL.out hq14
        have HRQ2 : Hid (RowP (wr.setCell ⟨R, q, none⟩ (.bool true)) pb x) := (HW2.out pb (by omega)).trans HRQ.out
        have HBQ2 : Hid (Below P w4 (wr.setCell ⟨R, q, none⟩ (.bool true))) := HBQ.out.setCell (p := ⟨R, q, none⟩) (by show P ≤ R; omega) _
        have HREL : Hid (RgL x w4 P R pb sl (.int .i64 ((j : Int) + 1)) (wr.setCell ⟨R, q, none⟩ (.bool true))) := by
          refine ⟨j + 1, hlt, by go_num, ?_, ?_, HRQ2.out, HBQ2.out⟩
          · have e : rK x (j + 1) = rK x j := by
              show (if kkAt x.op.toNat j = 1 ∨ kkAt x.op.toNat j = 3 then _ else _) = _
              rw [HKK.out]; rfl
            rw [e]; exact HFA2.out
          · have e : wK x (j + 1) = sb (wK x j) (x.part j).toNat true := by
              show (if kkAt x.op.toNat j = 2 ∨ kkAt x.op.toNat j = 3 then _ else _) = _
              rw [HKK.out]; rfl
            rw [e, HZ.out]; exact HFB2.out
        clear hsj hpr
        go_wp2_with fail
        go_roundw
        case rel => exact HREL.out
        case measure => simp [intOf]; omega
      · have hsn : (s[j].toNat : Int) = 51 := by rw [hsj]; rfl
        have hpr := part_reg HX.out H1.out H2.out j (by rw [HKK.out]; omega)
        rw [HZ.out] at hpr
        obtain ⟨q, rfl⟩ : ∃ q : Nat, z = q := ⟨z.toNat, by omega⟩
        have hq14 : q < 14 := by omega
        have hqI : (q : Int) < 14 := by omega
        have HRKL := Lib.hid (rK_lt HX.out H1.out H2.out j)
        have HWKL := Lib.hid (wK_lt HX.out H1.out H2.out j)
        have hPR := HPR.out
        have hRb := HPB.out
        have p0 := HF1.out.get hq14
        have pf := World.ownsRow.frozenAt HF1.out q
        have HW1 : Hid (∀ g, g ≠ P → (wr.setCell ⟨P, q, none⟩ (.bool true)).heap[g]? = wr.heap[g]?) := fun g hg => Below.heap_setCell _ _ _ _ (by simpa using hg)
        have HFA : Hid (FlO (wr.setCell ⟨P, q, none⟩ (.bool true)) P (sb (rK x j) q true)) := HF1.out.set HRKL.out hq14
        have HFB : Hid (FlO (wr.setCell ⟨P, q, none⟩ (.bool true)) R (wK x j)) := HF2.out.far fun _ => HW1.out R (by omega)
        have HRQ : Hid (RowP (wr.setCell ⟨P, q, none⟩ (.bool true)) pb x) := (HW1.out pb (by omega)).trans HRP.out
        have HBQ : Hid (Below P w4 (wr.setCell ⟨P, q, none⟩ (.bool true))) := HBR.out.setCell (p := ⟨P, q, none⟩) (Nat.le_refl _) _
        have c1 := HRQ.out.at j (by omega)
        rw [HZ.out] at c1
        have r0 := HFB.out.get hq14
        have rf := World.ownsRow.frozenAt HFB.out q
        have HW2 : Hid (∀ g, g ≠ R → ((wr.setCell ⟨P, q, none⟩ (.bool true)).setCell ⟨R, q, none⟩ (.bool true)).heap[g]? = (wr.setCell ⟨P, q, none⟩ (.bool true)).heap[g]?) := fun g hg => Below.heap_setCell _ _ _ _ (by simpa using hg)
        have HFA2 : Hid (FlO ((wr.setCell ⟨P, q, none⟩ (.bool true)).setCell ⟨R, q, none⟩ (.bool true)) P _) := HFA.out.far fun _ => HW2.out P (by omega)
        have HFB2 : Hid (FlO ((wr.setCell ⟨P, q, none⟩ (.bool true)).setCell ⟨R, q, none⟩ (.bool true)) R (sb (wK x j) q true)) := HFB.out.set HWKL.out hq14
        have HRQ2 : Hid (RowP ((wr.setCell ⟨P, q, none⟩ (.bool true)).setCell ⟨R, q, none⟩ (.bool true)) pb x) := (HW2.out pb (by omega)).trans HRQ.out
        have HBQ2 : Hid (Below P w4 ((wr.setCell ⟨P, q, none⟩ (.bool true)).setCell ⟨R, q, none⟩ (.bool true))) := HBQ.out.setCell (p := ⟨R, q, none⟩) (by show P ≤ R; omega) _
        have HREL : Hid (RgL x w4 P R pb sl (.int .i64 ((j : Int) + 1)) ((wr.setCell ⟨P, q, none⟩ (.bool true)).setCell ⟨R, q, none⟩ (.bool true))) := by
          refine ⟨j + 1, hlt, by go_num, ?_, ?_, HRQ2.out, HBQ2.out⟩
          · have e : rK x (j + 1) = sb (rK x j) (x.part j).toNat true := by
              show (if kkAt x.op.toNat j = 1 ∨ kkAt x.op.toNat j = 3 then _ else _) = _
              rw [HKK.out]; rfl
            rw [e, HZ.out]; exact HFA2.out
          · have e : wK x (j + 1) = sb (wK x j) (x.part j).toNat true := by
              show (if kkAt x.op.toNat j = 2 ∨ kkAt x.op.toNat j = 3 then _ else _) = _
              rw [HKK.out]; rfl
            rw [e, HZ.out]; exact HFB2.out
        clear hsj hpr
        go_wp2_with fail
        go_roundw
        case rel => exact HREL.out
        case measure => simp [intOf]; omega
    · obtain rfl : j = sl := by omega
      have HFIN : Hid (RegN x w (.returned (.tuple #[.slice (some ⟨P, 0, none⟩) 14 14, .slice (some ⟨R, 0, none⟩) 14 14])) wr) := by
        have hz := HB.out.size
        have hP := HWP.out
        have hPR := HPR.out
        have e1 := rK_all H1.out H2.out
        have e2 := wK_all H1.out H2.out
        rw [HOPN.out, HLEN.out] at e1 e2
        refine ⟨P, R, rfl, by rw [← e1]; exact HF1.out, by rw [← e2]; exact HF2.out, by omega, by omega, HB.out.trans ((HB4.out.mono hz).trans (HBR.out.mono (by omega)))⟩
      clear HF1 HF2 HRP HBR
      go_wp2_with fail
      go_ret2
      exact HFIN.out

end Go.Proofs.YtbifbmpflhdijaaDoor

namespace Go.Proofs.YtbifbmpflhdijaaDoor
open Go.RowKit
set_option linter.unusedVariables false

theorem OwnB.monoB {w : World} {base base' : Nat} {v : Value} {bs : List Bool} (h : OwnB w base v bs) (hb : base' ≤ base) : OwnB w base' v bs := by
  refine ⟨h.1, ?_⟩
  rcases h.2 with e | ⟨g, cp, cur, e1, e2, e3, e4⟩
  · exact .inl e
  · exact .inr ⟨g, cp, cur, e1, Nat.le_trans hb e2, e3, e4⟩

structure OwBB (w : World) (base : Nat) (rs : List (List Bool)) (a : Option Addr) (n c : Nat) (vs : List Value) : Prop where
  len : rs.length = n
  row : w.ownsRow base 47 1 (.slice a n c) n vs
  inn : ∀ (i : Nat) (r : List Bool), rs[i]? = some r → ∃ ai ci, vs[i]? = some (.slice ai r.length ci) ∧ OwnB w base (.slice ai r.length ci) r
  ap : ∀ (i : Nat) (v : Value) (g : Nat), vs[i]? = some v → v.ownBlock = some g → (Value.slice a n c).ownBlock ≠ some g
  dj : ∀ (i j : Nat) (v u : Value) (g : Nat), vs[i]? = some v → vs[j]? = some u → v.ownBlock = some g → u.ownBlock = some g → i = j
theorem OwBB.far {w w' : World} {base n c : Nat} {rs : List (List Bool)} {a : Option Addr} {vs : List Value} (h : OwBB w base rs a n c vs) (hs : ∀ g, base ≤ g → g < w.heap.size → w'.heap[g]? = w.heap[g]?) : OwBB w' base rs a n c vs :=
  ⟨h.len, ownsRow_far h.row (fun g hg hl => hs g (h.row.lt g hg).1 hl), fun i r hr => by
    obtain ⟨ai, ci, h1, h2⟩ := h.inn i r hr
    exact ⟨ai, ci, h1, h2.far fun g hg hl => hs g (h2.lt g hg).1 hl⟩, h.ap, h.dj⟩
theorem OwBB.later {w w' : World} {base n c : Nat} {rs : List (List Bool)} {a : Option Addr} {vs : List Value} (h : OwBB w base rs a n c vs) (hb : Below w.heap.size w w') : OwBB w' base rs a n c vs := h.far fun g _ hl => hb.block g hl
theorem OwBB.nil (w : World) (base : Nat) : OwBB w base [] none 0 0 [] := ⟨rfl, World.ownsRow_nil _ _ _ _, fun i r hr => by simp at hr, fun i v g hv => by simp at hv, fun i j v u g hv => by simp at hv⟩
/-- The block of the outer row. -/
theorem OwBB.at {w : World} {base n c : Nat} {rs : List (List Bool)} {a : Option Addr} {vs : List Value} (h : OwBB w base rs a n c vs) {i : Nat} {r : List Bool} (hr : rs[i]? = some r) : ∃ g ai ci, a = some ⟨g, 0, none⟩ ∧ base ≤ g ∧ g < w.heap.size ∧ vs[i]? = some (.slice ai r.length ci) ∧ w.cell? ⟨g, i, none⟩ = some (.slice ai r.length ci) ∧ OwnB w base (.slice ai r.length ci) r := by
  have hi : i < n := by rw [← h.len]; exact (List.getElem?_eq_some_iff.1 hr).1
  obtain ⟨ai, ci, h1, h2⟩ := h.inn i r hr
  have hrow := h.row
  obtain ⟨g, rfl, hg⟩ : ∃ g, a = some ⟨g, 0, none⟩ ∧ base ≤ g := by
    rcases hrow.2 with ⟨e, e2⟩ | ⟨g, cap', cur, e, hb, hg, hn', hm, hc, ht⟩
    · omega
    · injection e with e1 e2 e3
      exact ⟨g, e1, hb⟩
  have hc := hrow.cellAt i (by omega)
  rw [h1] at hc
  exact ⟨g, ai, ci, rfl, hg, (hrow.lt g rfl).2, h1, hc, h2⟩
theorem OwBB.bbs {w : World} {base n c : Nat} {rs : List (List Bool)} {a : Option Addr} {vs : List Value} (h : OwBB w base rs a n c vs) (hn : n ≤ 1048576) : BBs w (fun b => base ≤ b ∧ b < w.heap.size) rs a :=
  ⟨by rw [h.len]; unfold maxLen; omega, fun i r hr => by
    obtain ⟨g, ai, ci, rfl, h1, h2, h3, h4, h5⟩ := h.at hr
    obtain ⟨_, _, _, hbat⟩ := h5.bat
    exact ⟨g, 0, ai, ci, rfl, ⟨h1, h2⟩, by rw [Nat.zero_add]; exact h4, hbat⟩⟩
theorem OwBB.mark {w w' : World} {base n c i ci : Nat} {rs : List (List Bool)} {a ai : Option Addr} {vs : List Value} {r : List Bool} {k : Int} (h : OwBB w base rs a n c vs) (hr : rs[i]? = some r) (hv : vs[i]? = some (.slice ai r.length ci)) (hw : OwnB w' base (.slice ai r.length ci) (mkBl k r.length)) (hs : ∀ j, (Value.slice ai r.length ci).ownBlock ≠ some j → w'.heap[j]? = w.heap[j]?) : OwBB w' base (rs.set i (mkBl k r.length)) a n c vs :=
  ⟨by rw [List.length_set]; exact h.len, ownsRow_far h.row (fun g hg _ => hs g (fun e => h.ap i _ g hv e hg)), fun j s hj => by
    by_cases e : j = i
    · subst e
      rw [List.getElem?_set_self (List.getElem?_eq_some_iff.1 hr).1] at hj
      cases hj
      exact ⟨ai, ci, by rw [mkBl_len]; exact hv, by rw [mkBl_len]; exact hw⟩
    · rw [List.getElem?_set_ne (fun e2 => e e2.symm)] at hj
      obtain ⟨aj, cj, h1, h2⟩ := h.inn j s hj
      exact ⟨aj, cj, h1, h2.far fun g hg _ => hs g fun e2 => e (h.dj j i _ _ g h1 hv hg e2)⟩, h.ap, h.dj⟩

theorem OwBB.put {w w2 : World} {base n c g i l2 c2 : Nat} {rs : List (List Bool)} {a2 : Option Addr} {vs : List Value} {r2 : List Bool} (h : OwBB w base rs (some ⟨g, 0, none⟩) n c vs) (hi : i < n) (hb : Below w.heap.size w w2) (hown : OwnB w2 w.heap.size (.slice a2 l2 c2) r2) (hl : r2.length = l2) (hbase : base ≤ w.heap.size) : OwBB (w2.setCell ⟨g, i, none⟩ (.slice a2 l2 c2)) base (rs.set i r2) (some ⟨g, 0, none⟩) n c (vs.set i (.slice a2 l2 c2)) := by
  subst hl
  have h2 := h.later hb
  have hg := (h.row.lt g rfl).2
  have hvl : vs.length = n := by have := h.row.1; omega
  have hst : ∀ q, q ≠ g → (w2.setCell ⟨g, i, none⟩ (.slice a2 r2.length c2)).heap[q]? = w2.heap[q]? := fun q hq => Below.heap_setCell _ _ _ _ (by simpa using hq)
  have hold : ∀ (j : Nat) (v : Value) (q : Nat), vs[j]? = some v → v.ownBlock = some q → q < w.heap.size := fun j v q hv hq => by
    have hj : j < n := by rw [← hvl]; exact (List.getElem?_eq_some_iff.1 hv).1
    obtain ⟨ai, ci, h1, h3⟩ := h.inn j _ (List.getElem?_eq_getElem (by rw [h.len]; exact hj))
    rw [hv] at h1
    cases h1
    exact (h3.lt q hq).2
  refine ⟨by rw [List.length_set]; exact h.len, (h2.row.stored i (.slice a2 r2.length c2)).1, fun j s hj => ?_, fun j v q hv hq => ?_, fun j j' v u q hv hu hq hq' => ?_⟩
  · by_cases e : j = i
    · subst e
      rw [List.getElem?_set_self (by rw [h.len]; exact hi)] at hj
      cases hj
      refine ⟨a2, c2, List.getElem?_set_self (by rw [hvl]; exact hi), (hown.far fun q hq _ => hst q (fun e => ?_)).monoB hbase⟩
      have := (hown.lt q hq).1
      omega
    · rw [List.getElem?_set_ne (fun e2 => e e2.symm)] at hj
      obtain ⟨aj, cj, h1, h3⟩ := h2.inn j s hj
      refine ⟨aj, cj, by rw [List.getElem?_set_ne (fun e2 => e e2.symm)]; exact h1, h3.far fun q hq _ => hst q (fun e2 => ?_)⟩
      subst e2
      exact h.ap j _ q h1 hq rfl
  · by_cases e : j = i
    · subst e
      rw [List.getElem?_set_self (by rw [hvl]; exact hi)] at hv
      cases hv
      have := (hown.lt q hq).1
      intro e2
      have e3 : g = q := Option.some.inj e2
      omega
    · rw [List.getElem?_set_ne (fun e2 => e e2.symm)] at hv
      exact h.ap j v q hv hq
  · by_cases e : j = i
    · by_cases e' : j' = i
      · rw [e, e']
      · subst e
        rw [List.getElem?_set_self (by rw [hvl]; exact hi)] at hv
        cases hv
        rw [List.getElem?_set_ne (fun e2 => e' e2.symm)] at hu
        have h1 := (hown.lt q hq).1
        have h3 := hold j' u q hu hq'
        omega
    · rw [List.getElem?_set_ne (fun e2 => e e2.symm)] at hv
      by_cases e' : j' = i
      · subst e'
        rw [List.getElem?_set_self (by rw [hvl]; exact hi)] at hu
        cases hu
        have h1 := (hown.lt q hq').1
        have h3 := hold j v q hv hq
        omega
      · rw [List.getElem?_set_ne (fun e2 => e' e2.symm)] at hu
        exact h.dj j j' v u q hv hu hq hq'

/-- How many bools lie before the row. -/
def sumL (rs : List (List Bool)) : Nat → Nat
  | 0 => 0
  | j + 1 => sumL rs j + (rs.getD j []).length
theorem sumL_le {rs : List (List Bool)} (h : ∀ (i : Nat) (r : List Bool), rs[i]? = some r → r.length ≤ 14) : ∀ j, sumL rs j ≤ 14 * j
  | 0 => Nat.le_refl _
  | j + 1 => by
    have h1 := sumL_le h j
    have h2 : (rs.getD j []).length ≤ 14 := by
      rw [List.getD_eq_getElem?_getD]
      cases e : rs[j]? with
      | none => simp
      | some r => exact h j r e
    unfold sumL
    omega
theorem sumL_succ {rs : List (List Bool)} {j : Nat} {r : List Bool} (h : rs[j]? = some r) : sumL rs (j + 1) = sumL rs j + r.length := by
  show sumL rs j + (rs.getD j []).length = _
  rw [List.getD_eq_getElem?_getD, h]; rfl
/-- The first j rows hold the marks. -/
structure MkBB (k0 : Int) (rs ps : List (List Bool)) (j : Nat) : Prop where
  len : ps.length = rs.length
  same : ∀ (i : Nat) (r : List Bool), rs[i]? = some r → ∃ p, ps[i]? = some p ∧ p.length = r.length
  mkd : ∀ (i : Nat) (r : List Bool), i < j → rs[i]? = some r → ps[i]? = some (mkBl (k0 + (sumL rs i : Int)) r.length)
theorem MkBB.zero (k0 : Int) (rs : List (List Bool)) : MkBB k0 rs rs 0 := ⟨rfl, fun i r h => ⟨r, h, rfl⟩, fun i r hi => absurd hi (Nat.not_lt_zero _)⟩
theorem MkBB.succ {k0 : Int} {rs ps : List (List Bool)} {j : Nat} {r : List Bool} (h : MkBB k0 rs ps j) (hr : rs[j]? = some r) : MkBB k0 rs (ps.set j (mkBl (k0 + (sumL rs j : Int)) r.length)) (j + 1) := by
  have hj : j < ps.length := by rw [h.len]; exact (List.getElem?_eq_some_iff.1 hr).1
  refine ⟨by rw [List.length_set]; exact h.len, fun i s hs => ?_, fun i s hi hs => ?_⟩
  · by_cases e : i = j
    · subst e
      rw [hr] at hs
      cases hs
      exact ⟨_, List.getElem?_set_self hj, mkBl_len _ _⟩
    · obtain ⟨p, h1, h2⟩ := h.same i s hs
      exact ⟨p, by rw [List.getElem?_set_ne (fun e2 => e e2.symm)]; exact h1, h2⟩
  · by_cases e : i = j
    · subst e
      rw [hr] at hs
      cases hs
      exact List.getElem?_set_self hj
    · rw [List.getElem?_set_ne (fun e2 => e e2.symm)]
      exact h.mkd i s (by omega) hs
def WroteBB (w : World) (base : Nat) (rs : List (List Bool)) (a : Option Addr) (n c : Nat) (vs : List Value) (k0 : Int) (f : Ending) (w' : World) : Prop := ∃ ps, f = .returned (.int .i64 (k0 + (sumL rs n : Int))) ∧ OwBB w' base ps a n c vs ∧ MkBB k0 rs ps n ∧ Below base w w'
def MkBBL (w : World) (base : Nat) (rs : List (List Bool)) (a : Option Addr) (n c : Nat) (vs : List Value) (k0 : Int) (cv i : Value) (wr : World) : Prop := ∃ (j : Nat) (ps : List (List Bool)), j ≤ n ∧ i = .int .i64 (j : Int) ∧ cv = .int .i64 (k0 + (sumL rs j : Int)) ∧ OwBB wr base ps a n c vs ∧ MkBB k0 rs ps j ∧ Below base w wr

set_option maxRecDepth 100000 in
set_option maxHeartbeats 4000000 in
/-- **markBoolSS.** -/
theorem markBB_one (base n c : Nat) (a : Option Addr) (k0 : Int) (rs : List (List Bool)) (vs : List Value) (w : World) (h : OwBB w base rs a n c vs) (hn : n ≤ 400) (hB : ∀ (i : Nat) (r : List Bool), rs[i]? = some r → r.length ≤ 14) (h0 : 0 ≤ k0) (h1 : k0 ≤ 1000) :
    Calls Tryd.prog 21 #[.slice a n c, .int .i64 k0] w (WroteBB w base rs a n c vs k0) := by
  have HL : Hid (MkBBL w base rs a n c vs k0 (.int .i64 k0) (.int .i64 0) w) := ⟨0, rs, Nat.zero_le _, rfl, by simp [sumL], h, MkBB.zero _ _, Below.refl _ _⟩
  have HLEN : Hid (rs.length = n) := h.len
  have HB := Lib.hid hB
  clear h hB
  go_enter Tryd.func21, Tryd.ntmps21
  go_wp2_with fail
  go_loopw [1, 5] (fun cv i wr => MkBBL w base rs a n c vs k0 cv i wr) (fun _ i _ => n - (intOf i).toNat)
  case atStart => exact HL.out
  case round =>
    obtain ⟨j, ps, hj, rfl, rfl, hown, hmk, hb⟩ := hrel
    have HOWN := Lib.hid hown
    have HMK := Lib.hid hmk
    have HBE := Lib.hid hb
    clear hown hmk hb HL
    by_cases hlt : j < n
    · obtain ⟨r, hr⟩ : ∃ r, rs[j]? = some r := ⟨rs[j]'(by rw [HLEN.out]; exact hlt), List.getElem?_eq_getElem _⟩
      obtain ⟨p, hp, hpl⟩ := HMK.out.same j r hr
      obtain ⟨g, ai, ci, rfl, hg, hgs, hv, hcell, hin⟩ := HOWN.out.at hp
      have hr14 := HB.out j r hr
      have hsl := sumL_le HB.out j
      obtain ⟨pl, hpl2⟩ : ∃ pl, p.length = pl := ⟨_, rfl⟩
      rw [hpl2] at hcell
      have HMA := Lib.hid (markBS_one base pl ci ai (k0 + (sumL rs j : Int)) p wr (by rw [← hpl2]; exact hin) hpl2 (by omega) (by omega) (by omega))
      have HR := Lib.hid hr
      have HP := Lib.hid hp
      have HV := Lib.hid hv
      have HPL := Lib.hid hpl
      have HPL2 := Lib.hid hpl2
      clear hr hp hpl hpl2 hv hin
      go_wp2_with fail
      refine HMA.out.mono ?_
      rintro e w2 ⟨rfl, hw, hsz, hbe, hst⟩
      have HREL : Hid (MkBBL w base rs (some ⟨g, 0, none⟩) n c vs k0 (.int .i64 (k0 + (sumL rs j : Int) + (pl : Int))) (.int .i64 ((j : Int) + 1)) w2) := by
        have e1 : p.length = pl := HPL2.out
        have e2 : p.length = r.length := HPL.out
        subst e1
        refine ⟨j + 1, _, hlt, by go_num, ?_, HOWN.out.mark HP.out HV.out hw hst, ?_, HBE.out.trans hbe⟩
        · rw [sumL_succ HR.out, e2]
          go_num
        · rw [e2]
          exact HMK.out.succ HR.out
      clear hw hsz hbe hst HOWN HMK HBE hcell
      go_wp2_with fail
      go_roundw
      case rel => exact HREL.out
      case measure => simp [intOf]; omega
    · obtain rfl : j = n := by omega
      have HFIN : Hid (WroteBB w base rs a j c vs k0 (.returned (.int .i64 (k0 + (sumL rs j : Int)))) wr) := ⟨ps, rfl, HOWN.out, HMK.out, HBE.out⟩
      clear HOWN HMK HBE
      go_wp2_with fail
      go_ret
      exact HFIN.out

def HeldBB (rs : List (List Bool)) (n : Nat) (k0 : Int) (w : World) (f : Ending) (w' : World) : Prop := f = .returned (.int .i64 (k0 + (sumL rs n : Int))) ∧ Below w.heap.size w w'

set_option maxRecDepth 100000 in
set_option maxHeartbeats 4000000 in
/-- **heldBoolSS.** -/
theorem heldBB_one (n c : Nat) (a : Option Addr) (k0 : Int) (rs ps : List (List Bool)) (w : World) (h : BBs w (fun b => b < w.heap.size) ps a) (hm : MkBB k0 rs ps n) (hl : rs.length = n) (hn : n ≤ 400) (hB : ∀ (i : Nat) (r : List Bool), rs[i]? = some r → r.length ≤ 14) (h0 : 0 ≤ k0) (h1 : k0 ≤ 1000) :
    Calls Tryd.prog 22 #[.slice a n c, .int .i64 k0] w (HeldBB rs n k0 w) := by
  have H : Hid (∀ v, Below w.heap.size w v → BBs v (fun b => b < v.heap.size) ps a) := fun v hv => h.below hv
  have HM := Lib.hid hm
  have HLEN := Lib.hid hl
  have HB := Lib.hid hB
  clear h hm hl hB
  go_enter Tryd.func22, Tryd.ntmps22
  go_wp2_with fail
  go_loopw [1, 5] (fun cv i wr => ∃ j : Nat, j ≤ n ∧ i = .int .i64 (j : Int) ∧ cv = .int .i64 (k0 + (sumL rs j : Int)) ∧ Below w.heap.size w wr) (fun _ i _ => n - (intOf i).toNat)
  case atStart => exact ⟨0, Nat.zero_le _, rfl, by simp [sumL], Below.refl _ _⟩
  case round =>
    obtain ⟨j, hj, rfl, rfl, hb⟩ := hrel
    have HBE := Lib.hid hb
    clear hb
    by_cases hlt : j < n
    · obtain ⟨r, hr⟩ : ∃ r, rs[j]? = some r := ⟨rs[j]'(by rw [HLEN.out]; exact hlt), List.getElem?_eq_getElem _⟩
      obtain ⟨g, o, ai, ci, rfl, hg, hcell, hat⟩ := (H.out wr HBE.out).2 j _ (HM.out.mkd j r hlt hr)
      have hr14 := HB.out j r hr
      have hsl := sumL_le HB.out j
      obtain ⟨rl, hrl⟩ : ∃ rl, r.length = rl := ⟨_, rfl⟩
      have hss := sumL_succ hr
      rw [mkBl_len] at hcell
      rw [hrl] at hcell hat hr14 hss
      have HHE := Lib.hid (heldBS_one rl ci ai (k0 + (sumL rs j : Int)) wr hat (by omega) (by omega) (by omega))
      have HSS := Lib.hid hss
      clear hr hrl hat hss
      go_wp2_with fail
      refine HHE.out.mono ?_
      rintro e w2 ⟨rfl, hb2⟩
      have HREL : Hid (∃ j' : Nat, j' ≤ n ∧ Value.int .i64 ((j : Int) + 1) = .int .i64 (j' : Int) ∧ Value.int .i64 (k0 + (sumL rs j : Int) + (rl : Int)) = .int .i64 (k0 + (sumL rs j' : Int)) ∧ Below w.heap.size w w2) :=
        ⟨j + 1, hlt, by go_num, by rw [HSS.out]; go_num, HBE.out.trans (hb2.mono HBE.out.size)⟩
      clear hb2 HBE hcell
      go_wp2_with fail
      go_roundw
      case rel => exact HREL.out
      case measure => simp [intOf]; omega
    · obtain rfl : j = n := by omega
      have HFIN : Hid (HeldBB rs j k0 w (.returned (.int .i64 (k0 + (sumL rs j : Int)))) wr) := ⟨rfl, HBE.out⟩
      clear HBE
      go_wp2_with fail
      go_ret
      exact HFIN.out

end Go.Proofs.YtbifbmpflhdijaaDoor

namespace Go.Proofs.YtbifbmpflhdijaaDoor
open Go.RowKit
set_option linter.unusedVariables false

/-- A new row of the registers of m. -/
def FlgN (m : Nat) (w : World) (e : Ending) (w' : World) : Prop := ∃ a c, e = .returned (.slice a 14 c) ∧ OwnB w' w.heap.size (.slice a 14 c) ((List.range 14).map m.testBit) ∧ Below w.heap.size w w'
def FlgL (m : Nat) (w : World) (i : Value) (wr : World) : Prop := ∃ (j : Nat) (L : List Bool), j ≤ 14 ∧ i = .int .i64 (j : Int) ∧ L.length = 14 ∧ OwnB wr w.heap.size (.slice (some ⟨w.heap.size, 0, none⟩) 14 14) L ∧ (∀ q, q < j → L[q]? = some (m.testBit q)) ∧ Below w.heap.size w wr

set_option maxRecDepth 100000 in
set_option maxHeartbeats 4000000 in
/-- **flags.** -/
theorem flg_one (m : Nat) (w : World) (hm : m < 32768) :
    Calls Tryd.prog 54 #[.int .u16 (m : Int)] w (FlgN m w) := by
  obtain ⟨b0, hbi, hbz0, hbz1, hbz2⟩ := info_parts Tryd.infoB
  go_enter Tryd.func54, Tryd.ntmps54
  go_wp2_with (at_make; refine wpList_make_full _ rfl _ _ 47 rfl w.heap.size 4 b0 (.bool false) 1 Tryd.underlying47 hbi hbz0 hbz1 .i64 .i64 14 14 14 rfl rfl rfl rfl (by rw [hbz2]; omega) (by unfold maxLen; omega) (Nat.le_refl _) ?_; intro w1 hown1 hgrow1; rw [falses] at hown1)
  have HL : Hid (FlgL m w (.int .i64 0) w1) := ⟨0, List.replicate 14 false, Nat.zero_le _, rfl, by simp, by unfold OwnB; rw [List.length_replicate]; exact hown1, fun q hq => absurd hq (Nat.not_lt_zero _), (Below.refl _ w).grown hgrow1 (Nat.le_refl _) (fun k e => (by cases e))⟩
  clear hown1 hgrow1 hbi hbz0 hbz1 hbz2
  go_loopw [8] (fun i wr => FlgL m w i wr) (fun i _ => 14 - (intOf i).toNat)
  case atStart => exact HL.out
  case round =>
    obtain ⟨j, L, hj, rfl, hll, hown, hdn, hb⟩ := hrel
    have HLL := Lib.hid hll
    have HOWN := Lib.hid hown
    have HDN := Lib.hid hdn
    have HB := Lib.hid hb
    clear hll hown hdn hb HL
    by_cases hlt : j < 14
    · have hro : wr.ownsRow w.heap.size 4 1 (.slice (some ⟨w.heap.size, 0, none⟩) 14 14) 14 (L.map Value.bool) := by have h1 := HOWN.out; unfold OwnB at h1; rw [HLL.out] at h1; exact h1
      have hc := hro.cellAt j (by omega)
      obtain ⟨x, hx⟩ : ∃ x, L[j]? = some x := ⟨L[j]'(by rw [HLL.out]; exact hlt), List.getElem?_eq_getElem _⟩
      rw [List.getElem?_map, hx] at hc
      have hc' : wr.cell? ⟨w.heap.size, j, none⟩ = some (.bool x) := hc
      have hfz := hro.frozenAt j
      have hst := (hro.stored j (.bool (m.testBit j))).1
      have HREL : Hid (FlgL m w (.int .i64 ((j : Int) + 1)) (wr.setCell ⟨w.heap.size, j, none⟩ (.bool (m.testBit j)))) := by
        have hl6 : (L.set j (m.testBit j)).length = 14 := by rw [List.length_set]; exact HLL.out
        refine ⟨j + 1, _, hlt, by go_num, hl6, ?_, fun q hq => ?_, HB.out.setCell (p := ⟨w.heap.size, j, none⟩) (Nat.le_refl _) _⟩
        · unfold OwnB
          rw [hl6, List.map_set]
          exact hst
        · by_cases e : q = j
          · subst e
            exact List.getElem?_set_self (by rw [HLL.out]; exact hlt)
          · rw [List.getElem?_set_ne (fun e2 => e e2.symm)]
            exact HDN.out q (by omega)
      have HH := Lib.hid (has_one m j wr hm hlt)
      clear hro hc hx hst
      go_wp2_with fail
      refine HH.out.mono ?_
      rintro e w2 ⟨rfl, rfl⟩
      clear HH HOWN HB
      go_wp2_with fail
      go_roundw
      case rel => exact HREL.out
      case measure => simp [intOf]; omega
    · obtain rfl : j = 14 := by omega
      have HFIN : Hid (FlgN m w (.returned (.slice (some ⟨w.heap.size, 0, none⟩) 14 14)) wr) := by
        refine ⟨_, _, rfl, ?_, HB.out⟩
        have e : L = (List.range 14).map m.testBit := by
          apply List.ext_getElem?
          intro q
          by_cases hq : q < 14
          · rw [HDN.out q hq, List.getElem?_map, List.getElem?_range hq]; rfl
          · rw [List.getElem?_eq_none (by rw [HLL.out]; omega), List.getElem?_eq_none (by simp; omega)]
        rw [← e]
        exact HOWN.out
      clear HOWN HB HDN
      go_wp2_with fail
      go_ret
      exact HFIN.out

end Go.Proofs.YtbifbmpflhdijaaDoor

namespace Go.Proofs.YtbifbmpflhdijaaDoor
open Go.RowKit
set_option linter.unusedVariables false

theorem bef_bit {nv na : Nat} {x : Ins} (h : InsT nv na x) {a : Nat} (ha : a < 16384) (b : Nat) : (bef x a).testBit b = ((rdM x).testBit b || (a.testBit b && !(wrM x).testBit b)) := by
  unfold bef
  rw [Nat.testBit_or, andn_bit (by omega) (by have := wrM_lt h; omega)]
theorem ownB_made (w : World) (base : Nat) (hb : base ≤ w.heap.size) : (w.alloc (.cells #[] 4)).ownsRow base 4 1 (.slice (some ⟨w.heap.size, 0, none⟩) 0 0) 0 [] :=
  ⟨by simp, .inr ⟨w.heap.size, 0, _, rfl, hb, heap_alloc_new w _, Nat.le_refl _, by unfold maxLen; omega, by simp, by simp⟩⟩
theorem flg_of {w w' : World} {z : Nat} {a : Option Addr} {c base : Nat} (h : w'.ownsRow base 4 1 (.slice a 14 c) 14 ((flB z).map Value.bool)) (hb : w.heap.size ≤ base) (hB : Below w.heap.size w w') : FlgN z w (.returned (.slice a 14 c)) w' := by
  refine ⟨a, c, rfl, ?_, hB⟩
  have h1 : OwnB w' base (.slice a 14 c) (flB z) := by unfold OwnB; rw [flB_len]; exact h
  exact h1.monoB hb
/-- The state of the loop. -/
def BfL (z B : Nat) (W0 : World) (ov i : Value) (wr : World) : Prop := ∃ (j : Nat) (a : Option Addr) (c : Nat), j ≤ 14 ∧ i = .int .i64 (j : Int) ∧ ov = .slice a j c ∧ wr.ownsRow B 4 1 (.slice a j c) j (((flB z).take j).map Value.bool) ∧ Below B W0 wr

set_option maxRecDepth 100000 in
set_option maxHeartbeats 8000000 in
/-- **spec.l12Before.** -/
theorem l12Before_one {nv na : Nat} (x : Ins) (a : Nat) (ta : Option Addr) (tc : Nat) (w : World) (hx : InsT nv na x) (h1 : 1 ≤ x.op) (h2 : x.op ≤ 13) (ha : a < 16384) (ht : BAt w (fun b => b < w.heap.size) (flB a) ta) :
    Calls Tryd.prog 60 #[aggI x, .slice ta 14 tc] w (FlgN (bef x a) w) := by
  obtain ⟨b0, hbi, hbz0, hbz1, hbz2⟩ := info_parts Tryd.infoB
  obtain ⟨W, hW⟩ : ∃ W, w.alloc (.cells (arrI x) 50) = W := ⟨_, rfl⟩
  have hB : Below w.heap.size w W := by rw [← hW]; exact (Below.refl _ w).alloc (Nat.le_refl _) _
  have hbx : W.heap[w.heap.size]? = some (.cells (arrI x) 50 (0, 0)) := by rw [← hW]; exact heap_alloc_new w _
  have x0 : W.cell? ⟨w.heap.size, 0, none⟩ = some (.int .i64 x.op) := by rw [cell_at hbx]; rfl
  have x1 : W.cell? ⟨w.heap.size, 1, none⟩ = some (.int .i64 x.fa) := by rw [cell_at hbx]; rfl
  have x2 : W.cell? ⟨w.heap.size, 2, none⟩ = some (.int .i64 x.fb) := by rw [cell_at hbx]; rfl
  have x3 : W.cell? ⟨w.heap.size, 3, none⟩ = some (.int .i64 x.fc) := by rw [cell_at hbx]; rfl
  have x4 : W.cell? ⟨w.heap.size, 4, none⟩ = some (.int .i64 x.fd) := by rw [cell_at hbx]; rfl
  have HRG := Lib.hid (l12Regs_one x W hx h1 h2)
  have HX := Lib.hid hx
  have HA := Lib.hid ha
  have HT := Lib.hid ht
  have HW := Lib.hid hW
  have HB := Lib.hid hB
  clear hx ha ht hW hB hbx
  unfold arrI at HW
  go_enter Tryd.func60, Tryd.ntmps60
  go_wp2_with (first | rw [HW.out] | fail)
  refine HRG.out.mono ?_
  rintro e w2 ⟨P, R, rfl, hfp, hfr, hPl, hRl, hb2⟩
  have HFP := Lib.hid hfp
  have HFR := Lib.hid hfr
  have HB2 : Hid (Below w.heap.size w w2) := HB.out.trans (hb2.mono HB.out.size)
  have hP2 := hfp.lt
  have hR2 := hfr.lt
  obtain ⟨w3, hw3⟩ : ∃ w3, w2.alloc (.cells #[] 4) = w3 := ⟨_, rfl⟩
  have hb3 : Below w2.heap.size w2 w3 := by rw [← hw3]; exact (Below.refl _ _).alloc (Nat.le_refl _) _
  have HL0 : Hid (BfL (bef x a) w2.heap.size w2 (.slice (some ⟨w2.heap.size, 0, none⟩) 0 0) (.int .i64 0) w3) := ⟨0, _, 0, Nat.zero_le _, rfl, rfl, by rw [← hw3]; exact ownB_made w2 _ (Nat.le_refl _), hb3⟩
  have HW3 := Lib.hid hw3
  have hz2 := HB2.out.size
  clear hfp hfr hb2 hb3 hw3 HRG x0 x1 x2 x3 x4
  go_wp2_with fail
  rw [HW3.out]
  go_loopw [7, 8] (fun ov i wr => BfL (bef x a) w2.heap.size w2 ov i wr) (fun _ i _ => 14 - (intOf i).toNat)
  case atStart => exact HL0.out
  case round =>
    obtain ⟨j, oa, oc, hj, rfl, rfl, hrow, hbr⟩ := hrel
    have HROW := Lib.hid hrow
    have HBR := Lib.hid hbr
    have hzr := hbr.size
    clear hrow hbr HL0
    by_cases hlt : j < 14
    · have HFPw : Hid (FlO wr P (rdM x)) := HFP.out.far fun h => HBR.out.block P h
      have HFRw : Hid (FlO wr R (wrM x)) := HFR.out.far fun h => HBR.out.block R h
      have hat : BAt wr (fun b => b < wr.heap.size) (flB a) ta := HT.out.wide (fun k hk => (HBR.out.block k (by omega)).trans (HB2.out.block k hk)) fun k hk => by omega
      obtain ⟨tb, tO, rfl, _, q0⟩ := hat.2 j _ (flB_at a hlt)
      have p0 := HFPw.out.get hlt
      have u0 := HFRw.out.get hlt
      have hjI : (j : Int) < 14 := by omega
      have HBF := Lib.hid (bef_bit HX.out HA.out j)
      obtain ⟨p, hp⟩ : ∃ p, (rdM x).testBit j = p := ⟨_, rfl⟩
      obtain ⟨q, hq⟩ : ∃ q, a.testBit j = q := ⟨_, rfl⟩
      obtain ⟨u, hu⟩ : ∃ u, (wrM x).testBit j = u := ⟨_, rfl⟩
      rw [hp, hq, hu] at HBF
      rw [hp] at p0
      rw [hq] at q0
      rw [hu] at u0
      clear hp hq hu hat
      have HAPP : Hid (∀ v : Bool, (bef x a).testBit j = v → ∀ (g cp : Nat) (w5 : World), w5.ownsRow w2.heap.size 4 1 (.slice (some ⟨g, 0, none⟩) (j + 1) cp) (j + 1) (((flB (bef x a)).take j).map Value.bool ++ [.bool v]) → (wr.alloc (.cells #[.bool v] 4)).grownBy w5 (Value.slice oa j oc).ownBlock → BfL (bef x a) w2.heap.size w2 (.slice (some ⟨g, 0, none⟩) (j + 1) cp) (.int .i64 ((j : Int) + 1)) w5) := fun v hv g cp w5 hown hgr => by
        refine ⟨j + 1, _, cp, hlt, by go_num, rfl, ?_, (HBR.out.alloc hzr _).grown hgr (by simp; omega) (fun t ht => (HROW.out.lt t ht).1)⟩
        have e1 : (flB (bef x a)).take (j + 1) = (flB (bef x a)).take j ++ [v] := by rw [List.take_add_one, flB_at _ hlt, hv]; rfl
        rw [e1, List.map_append]
        exact hown
      cases p
      case true =>
        have hv : (bef x a).testBit j = true := HBF.out
        have HAP := Lib.hid (HAPP.out true hv)
        obtain ⟨V3, hV3⟩ : ∃ V3, wr.alloc (.cells #[.bool true] 4) = V3 := ⟨_, rfl⟩
        have hz3 : V3.heap.size = wr.heap.size + 1 := by rw [← hV3]; simp
        have hblk : V3.heap[wr.heap.size]? = some (.cells #[.bool true] 4 (0, 0)) := by rw [← hV3]; exact heap_alloc_new wr _
        have hr3 : V3.ownsRow w2.heap.size 4 1 (.slice oa j oc) j (((flB (bef x a)).take j).map Value.bool) := by rw [← hV3]; exact HROW.out.alloc _
        rw [hV3] at HAP
        have HV3 := Lib.hid hV3
        clear hV3 hv HAPP HBF
        go_wp2_with (first
          | (at_builtin
             rw [HV3.out]
             refine wpList_append_lies _ (by rfl) _ _ 47 (by rfl) w2.heap.size 4 b0 _ 1 1 Tryd.underlying47 hbi hbz0 hbz1 hbz2 rfl (by omega) (.slice oa j oc) j _ (by rfl) hr3 ⟨wr.heap.size, 0, none⟩ 1 1 _ (by rfl) (by rfl) (World.news_of_block hblk) (by simp [Value.oneCell']) (by omega) (by unfold maxLen; omega) (by omega) (by omega) (wr.heap.size + 1) (by omega) ?_
             intro g5 cp w5 hown5 hgrow hat5 hlt5
             have HREL := Lib.hid (HAP.out g5 cp w5 hown5 hgrow)
             clear hown5 hgrow hat5 hblk hr3)
          | fail)
        go_roundw
        case rel => exact HREL.out
        case measure => simp [intOf]; omega
      case false =>
        cases q
        case false =>
          have hv : (bef x a).testBit j = false := HBF.out
          have HAP := Lib.hid (HAPP.out false hv)
          obtain ⟨V3, hV3⟩ : ∃ V3, wr.alloc (.cells #[.bool false] 4) = V3 := ⟨_, rfl⟩
          have hz3 : V3.heap.size = wr.heap.size + 1 := by rw [← hV3]; simp
          have hblk : V3.heap[wr.heap.size]? = some (.cells #[.bool false] 4 (0, 0)) := by rw [← hV3]; exact heap_alloc_new wr _
          have hr3 : V3.ownsRow w2.heap.size 4 1 (.slice oa j oc) j (((flB (bef x a)).take j).map Value.bool) := by rw [← hV3]; exact HROW.out.alloc _
          rw [hV3] at HAP
          have HV3 := Lib.hid hV3
          clear hV3 hv HAPP HBF
          go_wp2_with (first
            | (at_builtin
               rw [HV3.out]
               refine wpList_append_lies _ (by rfl) _ _ 47 (by rfl) w2.heap.size 4 b0 _ 1 1 Tryd.underlying47 hbi hbz0 hbz1 hbz2 rfl (by omega) (.slice oa j oc) j _ (by rfl) hr3 ⟨wr.heap.size, 0, none⟩ 1 1 _ (by rfl) (by rfl) (World.news_of_block hblk) (by simp [Value.oneCell']) (by omega) (by unfold maxLen; omega) (by omega) (by omega) (wr.heap.size + 1) (by omega) ?_
               intro g5 cp w5 hown5 hgrow hat5 hlt5
               have HREL := Lib.hid (HAP.out g5 cp w5 hown5 hgrow)
               clear hown5 hgrow hat5 hblk hr3)
            | fail)
          go_roundw
          case rel => exact HREL.out
          case measure => simp [intOf]; omega
        case true =>
          cases u
          case false =>
            have hv : (bef x a).testBit j = true := HBF.out
            have HAP := Lib.hid (HAPP.out true hv)
            obtain ⟨V3, hV3⟩ : ∃ V3, wr.alloc (.cells #[.bool true] 4) = V3 := ⟨_, rfl⟩
            have hz3 : V3.heap.size = wr.heap.size + 1 := by rw [← hV3]; simp
            have hblk : V3.heap[wr.heap.size]? = some (.cells #[.bool true] 4 (0, 0)) := by rw [← hV3]; exact heap_alloc_new wr _
            have hr3 : V3.ownsRow w2.heap.size 4 1 (.slice oa j oc) j (((flB (bef x a)).take j).map Value.bool) := by rw [← hV3]; exact HROW.out.alloc _
            rw [hV3] at HAP
            have HV3 := Lib.hid hV3
            clear hV3 hv HAPP HBF
            go_wp2_with (first
              | (at_builtin
                 rw [HV3.out]
                 refine wpList_append_lies _ (by rfl) _ _ 47 (by rfl) w2.heap.size 4 b0 _ 1 1 Tryd.underlying47 hbi hbz0 hbz1 hbz2 rfl (by omega) (.slice oa j oc) j _ (by rfl) hr3 ⟨wr.heap.size, 0, none⟩ 1 1 _ (by rfl) (by rfl) (World.news_of_block hblk) (by simp [Value.oneCell']) (by omega) (by unfold maxLen; omega) (by omega) (by omega) (wr.heap.size + 1) (by omega) ?_
                 intro g5 cp w5 hown5 hgrow hat5 hlt5
                 have HREL := Lib.hid (HAP.out g5 cp w5 hown5 hgrow)
                 clear hown5 hgrow hat5 hblk hr3)
              | fail)
            go_roundw
            case rel => exact HREL.out
            case measure => simp [intOf]; omega
          case true =>
            have hv : (bef x a).testBit j = false := HBF.out
            have HAP := Lib.hid (HAPP.out false hv)
            obtain ⟨V3, hV3⟩ : ∃ V3, wr.alloc (.cells #[.bool false] 4) = V3 := ⟨_, rfl⟩
            have hz3 : V3.heap.size = wr.heap.size + 1 := by rw [← hV3]; simp
            have hblk : V3.heap[wr.heap.size]? = some (.cells #[.bool false] 4 (0, 0)) := by rw [← hV3]; exact heap_alloc_new wr _
            have hr3 : V3.ownsRow w2.heap.size 4 1 (.slice oa j oc) j (((flB (bef x a)).take j).map Value.bool) := by rw [← hV3]; exact HROW.out.alloc _
            rw [hV3] at HAP
            have HV3 := Lib.hid hV3
            clear hV3 hv HAPP HBF
            go_wp2_with (first
              | (at_builtin
                 rw [HV3.out]
                 refine wpList_append_lies _ (by rfl) _ _ 47 (by rfl) w2.heap.size 4 b0 _ 1 1 Tryd.underlying47 hbi hbz0 hbz1 hbz2 rfl (by omega) (.slice oa j oc) j _ (by rfl) hr3 ⟨wr.heap.size, 0, none⟩ 1 1 _ (by rfl) (by rfl) (World.news_of_block hblk) (by simp [Value.oneCell']) (by omega) (by unfold maxLen; omega) (by omega) (by omega) (wr.heap.size + 1) (by omega) ?_
                 intro g5 cp w5 hown5 hgrow hat5 hlt5
                 have HREL := Lib.hid (HAP.out g5 cp w5 hown5 hgrow)
                 clear hown5 hgrow hat5 hblk hr3)
              | fail)
            go_roundw
            case rel => exact HREL.out
            case measure => simp [intOf]; omega
    · obtain rfl : j = 14 := by omega
      have hrow := HROW.out
      rw [List.take_of_length_le (by rw [flB_len]; exact Nat.le_refl _)] at hrow
      have HFIN := Lib.hid (flg_of hrow hz2 (HB2.out.trans (HBR.out.mono hz2)))
      clear hrow HROW HBR
      go_wp2_with fail
      go_ret
      exact HFIN.out

end Go.Proofs.YtbifbmpflhdijaaDoor

namespace Go.Proofs.YtbifbmpflhdijaaDoor
open Go.RowKit
set_option linter.unusedVariables false

theorem sb_lt14v {m r : Nat} {v : Bool} (hm : m < 16384) (hr : r < 14) : sb m r v < 16384 := by
  cases v
  · unfold sb; rw [if_neg (by simp)]; exact and_lt14 _ hm
  · exact sb_lt14 hm hr
/-- The mask a with the first r registers of b. -/
def mx (a b : Nat) : Nat → Nat
  | 0 => a
  | r + 1 => sb (mx a b r) r (a.testBit r || b.testBit r)
theorem mx_lt {a b : Nat} (ha : a < 16384) : ∀ r, r ≤ 14 → mx a b r < 16384
  | 0, _ => ha
  | r + 1, h => sb_lt14v (mx_lt ha r (by omega)) (by omega)
theorem mx_bit {a b : Nat} (ha : a < 16384) : ∀ (r q : Nat), r ≤ 14 → (mx a b r).testBit q = if q < r then (a.testBit q || b.testBit q) else a.testBit q
  | 0, q, _ => by simp [mx]
  | r + 1, q, h => by
    show (sb (mx a b r) r (a.testBit r || b.testBit r)).testBit q = _
    rw [sb_bit (by have := mx_lt (b := b) ha r (by omega); omega) (by omega)]
    by_cases e : q = r
    · subst e; rw [if_pos rfl, if_pos (by omega)]
    · rw [if_neg e, mx_bit ha r q (by omega)]
      by_cases h2 : q < r
      · rw [if_pos h2, if_pos (by omega)]
      · rw [if_neg h2, if_neg (by omega)]
theorem mx_all {a b : Nat} (ha : a < 16384) (hb : b < 16384) : mx a b 14 = a ||| b := by
  apply Nat.eq_of_testBit_eq
  intro q
  rw [mx_bit ha 14 q (by omega), Nat.testBit_or]
  split
  · rfl
  · rw [bit_lt14 hb (by omega), Bool.or_false]
theorem FlO.setv {w : World} {b m : Nat} (h : FlO w b m) (hm : m < 16384) {r : Nat} (hr : r < 14) (v : Bool) : FlO (w.setCell ⟨b, r, none⟩ (.bool v)) b (sb m r v) := by
  have h1 := (World.ownsRow.stored h r (.bool v)).1
  rw [← List.map_set, flB_set hm hr] at h1
  exact h1
theorem orT_snoc (T : Nat → Nat) (t : Nat) : ∀ (L : List Nat) (a : Nat), orT T a (L ++ [t]) = orT T a L ||| T t
  | [], a => rfl
  | q :: L, a => orT_snoc T t L _
theorem orT_perm {T : Nat → Nat} {L L' : List Nat} (h : ∀ t, t ∈ L ↔ t ∈ L') : orT T 0 L = orT T 0 L' := by
  refine eq_of_sub (fun b hb => ?_) (fun b hb => ?_)
  all_goals
    rw [orT_bit] at hb ⊢
    rcases hb with hb | ⟨t, h1, h2⟩
    · exact .inl hb
  · exact .inr ⟨t, (h t).1 h1, h2⟩
  · exact .inr ⟨t, (h t).2 h1, h2⟩
/-- The states of the two loops. -/
def AfO (T : Nat → Nat) (ns : List Nat) (nl P : Nat) (W2 : World) (i : Value) (wr : World) : Prop := ∃ k : Nat, k ≤ nl ∧ i = .int .i64 (k : Int) ∧ FlO wr P (orT T 0 (ns.take k)) ∧ (∀ g, g ≠ P → g < W2.heap.size → wr.heap[g]? = W2.heap[g]?) ∧ Below P W2 wr
def AfI (a b P : Nat) (W2 : World) (i : Value) (wr : World) : Prop := ∃ r : Nat, r ≤ 14 ∧ i = .int .i64 (r : Int) ∧ FlO wr P (mx a b r) ∧ (∀ g, g ≠ P → g < W2.heap.size → wr.heap[g]? = W2.heap[g]?) ∧ Below P W2 wr

set_option maxRecDepth 100000 in
set_option maxHeartbeats 8000000 in
/-- **spec.l12After.** -/
theorem l12After_one (m : Cd) (k : CK) (ms : List Nat) (ta : Option Addr) (tn tc i : Nat) (x : Ins) (w : World) (h : CL w m k) (hok : Okc m.list) (hx : m.list[i]? = some x) (ht : BBs w (fun b => b < w.heap.size) (ms.map flB) ta) (hmn : ms.length = m.list.length) (hl : ∀ (i q : Nat), ms[i]? = some q → q < 16384) (htn : ms.length = tn) :
    Calls Tryd.prog 61 #[aggC m k, .slice ta tn tc, .int .i64 (i : Int)] w (FlgN (orT (fT ms) 0 (folN x i)) w) := by
  obtain ⟨b0, hbi, hbz0, hbz1, hbz2⟩ := info_parts Tryd.infoB
  obtain ⟨W, hW⟩ : ∃ W, w.alloc (.cells (arrC m k) 29) = W := ⟨_, rfl⟩
  have hB : Below w.heap.size w W := by rw [← hW]; exact (Below.refl _ w).alloc (Nat.le_refl _) _
  have hX : BoxC W w.heap.size m k := by rw [← hW]; exact BoxC.new _ _ _ _
  have HW := Lib.hid hW
  have HB := Lib.hid hB
  have HXB := Lib.hid hX
  have HCL := Lib.hid (h.below hB)
  have HT := Lib.hid ht
  have HOK := Lib.hid hok
  have HX := Lib.hid hx
  have HLT := Lib.hid hl
  have HMN := Lib.hid hmn
  have hi400 : i < 400 := by have h1 := (List.getElem?_eq_some_iff.1 hx).1; have h2 := hok.le; omega
  unfold arrC at HW
  clear h hok hx ht hmn hl hB hX hW
  go_enter Tryd.func61, Tryd.ntmps61
  go_upto_region 2 with (first
    | rw [HW.out]
    | (at_make
       refine wpList_make_full _ rfl _ _ 47 rfl W.heap.size 4 b0 (.bool false) 1 Tryd.underlying47 hbi hbz0 hbz1 .i64 .i64 14 14 14 rfl rfl rfl rfl (by rw [hbz2]; omega) (by unfold maxLen; omega) (Nat.le_refl _) ?_
       intro w1 hown1 hgrow1
       rw [falses, ← flB_0] at hown1)
    | fail)
  have HF1 : Hid (FlO w1 W.heap.size 0) := hown1
  have hb1 : Below W.heap.size W w1 := (Below.refl _ W).grown hgrow1 (Nat.le_refl _) (fun k e => (by cases e))
  have HB1 : Hid (Below w.heap.size w w1) := HB.out.trans (hb1.mono HB.out.size)
  have hX1 := HXB.out.below hb1 HXB.out.lt
  have c0 := hX1.c0
  have c1 := hX1.c1
  have c2 := hX1.c2
  have HNX : Hid (Calls Tryd.prog 96 #[.agg #[.slice k.va m.vars.length k.vc, .slice k.aa m.arrs.length k.ac, .slice k.la m.list.length k.lc], .int .i64 (i : Int)] w1 (IntsNew (folS x i) w1)) := by
    have h9 := l8Next_one m k i x w1 (HCL.out.below hb1) HX.out hi400
    unfold aggC at h9
    exact h9
  have hP1 : W.heap.size < w1.heap.size := HF1.out.lt
  have hwP := HB.out.size
  obtain ⟨P, hP⟩ : ∃ P, W.heap.size = P := ⟨_, rfl⟩
  rw [hP] at HF1 hP1 hwP ⊢
  clear hown1 hgrow1 hb1 hX1 hP
  go_wp2_with fail
  refine HNX.out.mono ?_
  rintro e w2 ⟨na, nc, rfl, hon, hb2⟩
  obtain ⟨na', nc', hne, hnat⟩ := hon.iat
  cases hne
  obtain ⟨ns, hns⟩ : ∃ ns : List Nat, (folS x i).map Int.toNat = ns := ⟨_, rfl⟩
  have HNS : Hid (folS x i = natI ns) := by
    show _ = _
    rw [← hns]
    unfold natI
    rw [List.map_map]
    refine (List.map_id _).symm.trans (List.map_congr_left fun z hz => ?_)
    obtain ⟨n, e, _⟩ := (folS_mem HOK.out HX.out z).1 hz
    subst e; rfl
  have HMEM : Hid (∀ t, t ∈ ns ↔ t ∈ folN x i) := fun t => by
    have h1 := folS_mem HOK.out HX.out (t : Int)
    rw [HNS.out] at h1
    constructor
    · intro e
      obtain ⟨n, e1, e2⟩ := h1.1 (List.mem_map.2 ⟨t, e, rfl⟩)
      have : n = t := by omega
      rw [← this]; exact e2
    · intro e
      obtain ⟨n, e1, e2⟩ := List.mem_map.1 (h1.2 ⟨t, rfl, e⟩)
      have : n = t := by omega
      rw [← this]; exact e1
  obtain ⟨nl, hnl⟩ : ∃ nl, ns.length = nl := ⟨_, rfl⟩
  have hfl : (folS x i).length = nl := by rw [HNS.out, natI_len]; exact hnl
  have hnl2 : nl ≤ 2 := by rw [← hfl]; exact folS_len x i
  rw [hfl]
  have HNAT : Hid (∀ (k t : Nat), ns[k]? = some t → ∃ g o, na = some ⟨g, o, none⟩ ∧ P < g ∧ g < w2.heap.size ∧ w2.cell? ⟨g, o + k, none⟩ = some (.int .i64 (t : Int))) := fun k t hk => by
    have hkl := (List.getElem?_eq_some_iff.1 hk).1
    obtain ⟨g, o, e1, e2, e3⟩ := hnat.2 k (by rw [hfl]; omega)
    rw [HNS.out, natI_at hk] at e3
    exact ⟨g, o, e1, by omega, e2.2, e3⟩
  have HNL := Lib.hid hnl
  have HB2 : Hid (Below w.heap.size w w2) := HB1.out.trans (hb2.mono HB1.out.size)
  have HT2 : Hid (BBs w2 (fun b => b < w.heap.size) (ms.map flB) ta) := HT.out.wide (fun g hg => HB2.out.block g hg) fun _ h => h
  have hPw2 : P < w2.heap.size := by have := hb2.size; omega
  have HL0 : Hid (AfO (fT ms) ns nl P w2 (.int .i64 0) w2) := ⟨0, Nat.zero_le _, rfl, HF1.out.far fun h => hb2.block _ h, fun _ _ _ => rfl, Below.refl _ _⟩
  clear hon hnat hns hnl hfl hb2 HNX HF1 c0 c1 c2
  go_wp2_with fail
  go_loopw [9] (fun i wr => AfO (fT ms) ns nl P w2 i wr) (fun i _ => nl - (intOf i).toNat)
  case atStart => exact HL0.out
  case round =>
    obtain ⟨j, hj, rfl, hf, hst, hbr⟩ := hrel
    have HF := Lib.hid hf
    have HST := Lib.hid hst
    have HBR := Lib.hid hbr
    clear hf hst hbr HL0
    by_cases hlt : j < nl
    · obtain ⟨t, hn⟩ : ∃ t, ns[j]? = some t := ⟨ns[j]'(by rw [HNL.out]; exact hlt), List.getElem?_eq_getElem _⟩
      have htf := (HMEM.out t).1 (List.mem_of_getElem? hn)
      have htl : t < tn := by rw [← htn, HMN.out]; exact HOK.out.fol HX.out htf
      obtain ⟨mt, hmt⟩ : ∃ mt, ms[t]? = some mt := ⟨ms[t]'(by rw [htn]; exact htl), List.getElem?_eq_getElem _⟩
      have hmtl := HLT.out t mt hmt
      obtain ⟨g, go, rfl, hgP, hgl, hgc⟩ := HNAT.out j t hn
      obtain ⟨tb, tO, pa, pc, rfl, htb, hrc, hrb⟩ := HT2.out.2 t (flB mt) (by rw [List.getElem?_map, hmt]; rfl)
      rw [flB_len] at hrc
      obtain ⟨a, ha⟩ : ∃ a, orT (fT ms) 0 (ns.take j) = a := ⟨_, rfl⟩
      have hal : a < 16384 := by
        rw [← ha]
        exact orT_lt _ _ _ (by omega) fun t _ => fT_lt HLT.out t
      have HSUM : Hid (orT (fT ms) 0 (ns.take (j + 1)) = a ||| mt) := by
        show _ = _
        rw [List.take_add_one, hn]
        exact (orT_snoc _ _ _ _).trans (by rw [ha, fT_at hmt])
      rw [ha] at HF
      have HGC := Lib.hid hgc
      have HRC := Lib.hid hrc
      have HRB := Lib.hid hrb
      have HI0 : Hid (AfI a mt P w2 (.int .i64 0) wr) := ⟨0, Nat.zero_le _, rfl, HF.out, HST.out, HBR.out⟩
      have htI : (t : Int) < tn := by omega
      have hjI : (j : Int) < nl := by omega
      clear hn htf hmt ha hgc hrc hrb HF HST HBR
      go_wp2_with fail
      go_loopw [10] (fun i wr => AfI a mt P w2 i wr) (fun i _ => 14 - (intOf i).toNat)
      case atStart => exact HI0.out
      case round =>
        obtain ⟨r, hr, rfl, hf, hst, hbr⟩ := hrel
        have HF := Lib.hid hf
        have HST := Lib.hid hst
        have HBR := Lib.hid hbr
        clear hf hst hbr HI0
        by_cases hlr : r < 14
        · have hrI : (r : Int) < 14 := by omega
          have o0 := HF.out.get hlr
          have ofz := World.ownsRow.frozenAt HF.out r
          rw [mx_bit hal r r hr, if_neg (by omega)] at o0
          have g0 : wr.cell? ⟨g, go + j, none⟩ = some (.int .i64 (t : Int)) := (World.cell?_of_block (w := w2) (a := ⟨g, go + j, none⟩) (HST.out g (by omega) hgl)).trans HGC.out
          have r0 : wr.cell? ⟨tb, tO + t, none⟩ = some (.slice pa 14 pc) := (World.cell?_of_block (w := w2) (a := ⟨tb, tO + t, none⟩) (HST.out tb (by omega) (by omega))).trans HRC.out
          obtain ⟨qb, qO, rfl, hqb, hqc⟩ := HRB.out.2 r _ (flB_at mt hlr)
          have q0 : wr.cell? ⟨qb, qO + r, none⟩ = some (.bool (mt.testBit r)) := (World.cell?_of_block (w := w2) (a := ⟨qb, qO + r, none⟩) (HST.out qb (by omega) (by omega))).trans hqc
          have HREL : Hid (∀ v, (a.testBit r || mt.testBit r) = v → AfI a mt P w2 (.int .i64 ((r : Int) + 1)) (wr.setCell ⟨P, r, none⟩ (.bool v))) := fun v hv => by
            refine ⟨r + 1, hlr, by go_num, ?_, fun g h1 h2 => (Below.heap_setCell _ _ _ _ (by simpa using h1)).trans (HST.out g h1 h2), HBR.out.setCell (p := ⟨P, r, none⟩) (Nat.le_refl _) _⟩
            show FlO _ P (sb (mx a mt r) r (a.testBit r || mt.testBit r))
            rw [hv]
            exact HF.out.setv (mx_lt hal r hr) hlr v
          obtain ⟨p, hp⟩ : ∃ p, a.testBit r = p := ⟨_, rfl⟩
          obtain ⟨q, hq⟩ : ∃ q, mt.testBit r = q := ⟨_, rfl⟩
          rw [hp] at o0
          rw [hq] at q0
          rw [hp, hq] at HREL
          clear hp hq hqc
          cases p
          case true =>
            have HR2 := Lib.hid (HREL.out true rfl)
            clear HREL HF HBR
            go_wp2_with fail
            go_roundw
            case rel => exact HR2.out
            case measure => simp [intOf]; omega
          case false =>
            have HR2 := Lib.hid (HREL.out q rfl)
            clear HREL HF HBR
            go_wp2_with fail
            go_roundw
            case rel => exact HR2.out
            case measure => simp [intOf]; omega
        · obtain rfl : r = 14 := by omega
          have HREL : Hid (AfO (fT ms) ns nl P w2 (.int .i64 ((j : Int) + 1)) wr) := ⟨j + 1, hlt, by go_num, by rw [HSUM.out, ← mx_all hal hmtl]; exact HF.out, HST.out, HBR.out⟩
          clear HF HBR HST
          go_wp2_with fail
          go_roundw
          case rel => exact HREL.out
          case measure => simp [intOf]; omega
    · obtain rfl : j = nl := by omega
      have hf := HF.out
      rw [List.take_of_length_le (by rw [HNL.out]; exact Nat.le_refl _), orT_perm HMEM.out] at hf
      have HFIN := Lib.hid (flg_of hf hwP (HB2.out.trans (HBR.out.mono hwP)))
      clear hf HF HBR HST
      go_wp2_with fail
      go_ret
      exact HFIN.out

end Go.Proofs.YtbifbmpflhdijaaDoor

namespace Go.Proofs.YtbifbmpflhdijaaDoor
open Go.RowKit
set_option linter.unusedVariables false

theorem sb_same {m r : Nat} {v : Bool} (hm : m < 16384) (hr : r < 14) (h : m.testBit r = v) : sb m r v = m := by
  apply Nat.eq_of_testBit_eq
  intro b
  rw [sb_bit (by omega) (by omega)]
  split
  · rename_i e; subst e; exact h.symm
  · rfl
theorem pcK_sb {m r : Nat} (hm : m < 16384) (hr : r < 14) (h : m.testBit r = false) : ∀ k, pcK (sb m r true) k = pcK m k + if r < k then 1 else 0
  | 0 => by simp [pcK]
  | k + 1 => by
    have e1 : pcK (sb m r true) (k + 1) = pcK (sb m r true) k + if (sb m r true).testBit k then 1 else 0 := rfl
    have e2 : pcK m (k + 1) = pcK m k + if m.testBit k then 1 else 0 := rfl
    have ih := pcK_sb hm hr h k
    have hb := sb_bit (m := m) (r := r) (b := k) (v := true) (by omega) (by omega)
    rw [e1, e2]
    by_cases e : k = r
    · subst e
      rw [if_pos rfl] at hb
      rw [if_neg (Nat.lt_irrefl k)] at ih
      rw [hb, h, ih, if_pos (Nat.lt_succ_self k)]; simp
    · rw [if_neg e] at hb
      rw [hb, ih]
      by_cases h2 : r < k
      · rw [if_pos h2, if_pos (Nat.lt_succ_of_lt h2)]; omega
      · rw [if_neg h2, if_neg (show ¬ r < k + 1 by omega)]; omega
theorem pcK_0 : pcK 0 14 = 0 := by decide
/-- The states of the two loops. -/
def UsO (l : List Ins) (n P : Nat) (W2 : World) (cv i : Value) (wr : World) : Prop := ∃ j : Nat, j ≤ n ∧ i = .int .i64 (j : Int) ∧ cv = .int .i64 (pcK (usM l j) 14 : Int) ∧ FlO wr P (usM l j) ∧ Below P W2 wr
def UsR (a b P : Nat) (W2 : World) (cv i : Value) (wr : World) : Prop := ∃ r : Nat, r ≤ 14 ∧ i = .int .i64 (r : Int) ∧ cv = .int .i64 (pcK (mx a b r) 14 : Int) ∧ FlO wr P (mx a b r) ∧ (∀ g, g ≠ P → g < W2.heap.size → wr.heap[g]? = W2.heap[g]?) ∧ Below P W2 wr

set_option maxRecDepth 100000 in
set_option maxHeartbeats 8000000 in
/-- **spec.RegsUsed.** -/
theorem sUs_one (m : Cd) (k : CK) (w : World) (h : CL w m k) :
    Calls Tryd.prog 31 #[aggC m k] w (NumB (usN m) w) := by
  obtain ⟨b0, hbi, hbz0, hbz1, hbz2⟩ := info_parts Tryd.infoB
  obtain ⟨W, hW⟩ : ∃ W, w.alloc (.cells (arrC m k) 29) = W := ⟨_, rfl⟩
  have hB : Below w.heap.size w W := by rw [← hW]; exact (Below.refl _ w).alloc (Nat.le_refl _) _
  have hX : BoxC W w.heap.size m k := by rw [← hW]; exact BoxC.new _ _ _ _
  have H : Hid (∀ v, Below W.heap.size W v → BoxC v w.heap.size m k ∧ CL v m k) := fun v hv => ⟨hX.below hv hX.lt, (h.below hB).below hv⟩
  have c0 := hX.c0
  have c1 := hX.c1
  have c2 := hX.c2
  have HW := Lib.hid hW
  have HB := Lib.hid hB
  unfold arrC at HW
  have HV := Lib.hid (sCV_one m k W (h.below hB))
  clear h hB hX hW
  go_enter Tryd.func31, Tryd.ntmps31
  go_wp2_with (first | rw [HW.out] | fail)
  refine HV.out.mono ?_
  rintro e w2 ⟨rfl, hb2⟩
  have HB2 : Hid (Below w.heap.size w w2) := HB.out.trans (hb2.mono HB.out.size)
  have HL2 : Hid (Below W.heap.size W w2) := hb2
  have hz2 := hb2.size
  have hz0 := HB.out.size
  obtain ⟨q, hq⟩ : ∃ q, codeB m = q := ⟨_, rfl⟩
  have HQ := Lib.hid hq
  rw [hq]
  clear hb2 hq HV c0 c1 c2
  cases q
  case false =>
    have HF : Hid (0 = usN m) := by show _ = _; unfold usN; rw [HQ.out]; rfl
    go_wp2_with fail
    go_ret
    exact NumB.of HF.out HB2.out
  case true =>
    obtain ⟨n, hn⟩ : ∃ n, m.list.length = n := ⟨_, rfl⟩
    have HN := Lib.hid hn
    have HO := Lib.hid (codeB_ok HQ.out)
    have hle : n ≤ 400 := by rw [← hn]; exact HO.out.le
    have HIT : Hid (∀ (i : Nat) (x : Ins), m.list[i]? = some x → InsT m.vars.length m.arrs.length x ∧ 1 ≤ x.op ∧ x.op ≤ 13) := fun i x hx => ⟨codeB_ins HQ.out hx, codeB_op' HQ.out hx⟩
    clear hn
    go_upto_region 4 with (first
      | (at_make
         refine wpList_make_full _ rfl _ _ 47 rfl w2.heap.size 4 b0 (.bool false) 1 Tryd.underlying47 hbi hbz0 hbz1 .i64 .i64 14 14 14 rfl rfl rfl rfl (by rw [hbz2]; omega) (by unfold maxLen; omega) (Nat.le_refl _) ?_
         intro w3 hown3 hgrow3
         rw [falses, ← flB_0] at hown3)
      | fail)
    have HF0 : Hid (FlO w3 w2.heap.size 0) := hown3
    have hb3 : Below w2.heap.size w2 w3 := (Below.refl _ w2).grown hgrow3 (Nat.le_refl _) (fun k e => (by cases e))
    have HL0 : Hid (UsO m.list n w2.heap.size w2 (.int .i64 0) (.int .i64 0) w3) := ⟨0, Nat.zero_le _, rfl, by show _ = Value.int .i64 ((pcK 0 14 : Nat) : Int); rw [pcK_0]; rfl, HF0.out, hb3⟩
    clear hown3 hgrow3 hb3 HF0
    go_wp2_with fail
    go_loopw [4, 5] (fun cv i wr => UsO m.list n w2.heap.size w2 cv i wr) (fun _ i _ => n - (intOf i).toNat)
    case atStart => exact HL0.out
    case round =>
      obtain ⟨j, hj, rfl, rfl, hf, hb⟩ := hrel
      have HBR := Lib.hid hb
      have HF := Lib.hid hf
      have hWr : Below W.heap.size W wr := HL2.out.trans (hb.mono hz2)
      have hbsz := hb.size
      obtain ⟨hbx, hcl⟩ := H.out wr hWr
      have c2 := hbx.c2
      rw [HN.out] at c2
      have hul := usM_lt (fun i x hx => (HIT.out i x hx).1) j
      have hpu := pcK_le (usM m.list j) 14
      have hw2w := hf.lt
      clear hb hWr hf HL0 hbx
      by_cases hlt : j < n
      · obtain ⟨x, hx⟩ : ∃ x, m.list[j]? = some x := ⟨m.list[j]'(by rw [HN.out]; exact hlt), List.getElem?_eq_getElem _⟩
        obtain ⟨bi, oi, hla, hbil, e0, e1, e2, e3, e4⟩ := hcl.2.2.2 j x hx
        obtain ⟨hxt, hx1, hx2⟩ := HIT.out j x hx
        have HRG := Lib.hid (l12Regs_one x wr hxt hx1 hx2)
        have hbl := or_lt14 (rdM_lt hxt) (wrM_lt hxt)
        have HUS : Hid (usM m.list (j + 1) = usM m.list j ||| (rdM x ||| wrM x)) := by show _ = _; show _ ||| usX m.list j = _; rw [usX_at hx]
        have HBB : Hid (∀ r, (rdM x ||| wrM x).testBit r = ((rdM x).testBit r || (wrM x).testBit r)) := fun r => Nat.testBit_or _ _ _
        obtain ⟨U, hU⟩ : ∃ u, usM m.list j = u := ⟨_, rfl⟩
        rw [hU] at HF HUS hul hpu ⊢
        obtain ⟨B, hBe⟩ : ∃ u, rdM x ||| wrM x = u := ⟨_, rfl⟩
        rw [hBe] at HUS HBB hbl
        have hjI : (j : Int) < n := by omega
        rw [hla] at c2
        clear hx hla hcl hxt hx1 hx2 hU hBe
        go_wp2_with fail
        refine HRG.out.mono ?_
        rintro e w4 ⟨ra, wa, rfl, hra, hwa, hrl, hwl, hb4⟩
        have HRA := Lib.hid hra
        have HWA := Lib.hid hwa
        have hral := hra.lt
        have hwal := hwa.lt
        have HB4 : Hid (Below w2.heap.size w2 w4) := HBR.out.trans (hb4.mono hbsz)
        have HI0 : Hid (UsR U B w2.heap.size w4 (.int .i64 (pcK U 14 : Int)) (.int .i64 0) w4) := ⟨0, Nat.zero_le _, rfl, rfl, HF.out.far fun h => hb4.block _ h, fun _ _ _ => rfl, Below.refl _ _⟩
        clear hra hwa hb4 HRG HF e0 e1 e2 e3 e4 c2
        go_wp2_with fail
        go_loopw [4, 8] (fun cv i wr => UsR U B w2.heap.size w4 cv i wr) (fun _ i _ => 14 - (intOf i).toNat)
        case atStart => exact HI0.out
        case round =>
          obtain ⟨r, hr, rfl, rfl, hf, hst, hbr⟩ := hrel
          have HF := Lib.hid hf
          have HST := Lib.hid hst
          have HBR2 := Lib.hid hbr
          have hml := mx_lt (b := B) hul r hr
          have hpm := pcK_le (mx U B r) 14
          clear hf hst hbr HI0
          by_cases hlr : r < 14
          · have hrI : (r : Int) < 14 := by omega
            have o0 := HF.out.get hlr
            have ofz := World.ownsRow.frozenAt HF.out r
            have hmb := mx_bit (b := B) hul r r hr
            rw [if_neg (by omega)] at hmb
            rw [hmb] at o0
            have p0 : wr.cell? ⟨ra, r, none⟩ = some (.bool ((rdM x).testBit r)) := (World.cell?_of_block (w := w4) (a := ⟨ra, r, none⟩) (HST.out ra (by omega) hral)).trans (HRA.out.get hlr)
            have q0 : wr.cell? ⟨wa, r, none⟩ = some (.bool ((wrM x).testBit r)) := (World.cell?_of_block (w := w4) (a := ⟨wa, r, none⟩) (HST.out wa (by omega) hwal)).trans (HWA.out.get hlr)
            have hbb := HBB.out r
            have HNO : Hid ((U.testBit r || B.testBit r) = U.testBit r → UsR U B w2.heap.size w4 (.int .i64 (pcK (mx U B r) 14 : Int)) (.int .i64 ((r : Int) + 1)) wr) := fun e => by
              have e2 : mx U B (r + 1) = mx U B r := by
                show sb (mx U B r) r (U.testBit r || B.testBit r) = _
                rw [e]; exact sb_same hml hlr hmb
              exact ⟨r + 1, hlr, by go_num, by rw [e2], by rw [e2]; exact HF.out, HST.out, HBR2.out⟩
            have HYES : Hid (U.testBit r = false → B.testBit r = true → UsR U B w2.heap.size w4 (.int .i64 ((pcK (mx U B r) 14 : Int) + 1)) (.int .i64 ((r : Int) + 1)) (wr.setCell ⟨w2.heap.size, r, none⟩ (.bool true))) := fun eu eb => by
              have e2 : mx U B (r + 1) = sb (mx U B r) r true := by
                show sb (mx U B r) r (U.testBit r || B.testBit r) = _
                rw [eu, eb]; rfl
              have e3 : pcK (mx U B (r + 1)) 14 = pcK (mx U B r) 14 + 1 := by rw [e2, pcK_sb hml hlr (by rw [hmb]; exact eu) 14, if_pos hlr]
              refine ⟨r + 1, hlr, by go_num, by rw [e3]; rfl, by rw [e2]; exact HF.out.setv hml hlr true, fun g h1 h2 => (Below.heap_setCell _ _ _ _ (by simpa using h1)).trans (HST.out g h1 h2), HBR2.out.setCell (p := ⟨w2.heap.size, r, none⟩) (Nat.le_refl _) _⟩
            obtain ⟨p, hp⟩ : ∃ p, (rdM x).testBit r = p := ⟨_, rfl⟩
            obtain ⟨q, hq⟩ : ∃ p, (wrM x).testBit r = p := ⟨_, rfl⟩
            obtain ⟨u, hu⟩ : ∃ p, U.testBit r = p := ⟨_, rfl⟩
            obtain ⟨z, hz⟩ : ∃ z, pcK (mx U B r) 14 = z := ⟨_, rfl⟩
            rw [hp, hq] at hbb
            rw [hp] at p0
            rw [hq] at q0
            rw [hu] at o0
            rw [hbb, hu, hz] at HYES
            rw [hbb, hu, hz] at HNO
            rw [hz] at hpm ⊢
            clear hp hq hu hz hbb hmb hml
            cases p
            case false =>
              cases q
              case false =>
                have HR := Lib.hid (HNO.out (by simp))
                clear HNO HYES HF HBR2
                go_wp2_with fail
                go_roundw
                case rel => exact HR.out
                case measure => simp [intOf]; omega
              case true =>
                cases u
                case true =>
                  have HR := Lib.hid (HNO.out (by simp))
                  clear HNO HYES HF HBR2
                  go_wp2_with fail
                  go_roundw
                  case rel => exact HR.out
                  case measure => simp [intOf]; omega
                case false =>
                  have HR := Lib.hid (HYES.out rfl (by simp))
                  clear HNO HYES HF HBR2
                  go_wp2_with fail
                  go_roundw
                  case rel => exact HR.out
                  case measure => simp [intOf]; omega
            case true =>
              cases u
              case true =>
                have HR := Lib.hid (HNO.out (by simp))
                clear HNO HYES HF HBR2
                go_wp2_with fail
                go_roundw
                case rel => exact HR.out
                case measure => simp [intOf]; omega
              case false =>
                have HR := Lib.hid (HYES.out rfl (by simp))
                clear HNO HYES HF HBR2
                go_wp2_with fail
                go_roundw
                case rel => exact HR.out
                case measure => simp [intOf]; omega
          · obtain rfl : r = 14 := by omega
            have e1 := mx_all hul hbl
            have HREL : Hid (UsO m.list n w2.heap.size w2 (.int .i64 (pcK (mx U B 14) 14 : Int)) (.int .i64 ((j : Int) + 1)) wr) := ⟨j + 1, hlt, by go_num, by rw [HUS.out, e1], by rw [HUS.out, ← e1]; exact HF.out, HB4.out.trans HBR2.out⟩
            obtain ⟨z, hz⟩ : ∃ z, pcK (mx U B 14) 14 = z := ⟨_, rfl⟩
            rw [hz] at HREL hpm ⊢
            clear HF HBR2 HST hz e1 hml
            go_wp2_with fail
            go_roundw
            case rel => exact HREL.out
            case measure => simp [intOf]; omega
      · obtain rfl : j = n := by omega
        have HFN : Hid ((pcK (usM m.list j) 14 : Int) = usN m) := by show _ = _; unfold usN; rw [HQ.out, HN.out]; rfl
        have HB3 : Hid (Below w.heap.size w wr) := HB2.out.trans (HBR.out.mono (by omega))
        clear hcl HF HBR
        go_wp2_with fail
        go_ret
        exact NumB.of HFN.out HB3.out

end Go.Proofs.YtbifbmpflhdijaaDoor

namespace Go.Proofs.YtbifbmpflhdijaaDoor
open Go.RowKit
set_option linter.unusedVariables false

set_option maxRecDepth 100000 in
set_option maxHeartbeats 8000000 in
theorem law_FnExactRegsUsed (m : Cd) (k : CK) (w : World) (hT : TblF w) (hg : 0 < w.heap.size) (h : CL w m k) :
    Calls Tryd.prog 8 #[aggC m k] w (YN true w) := by
  have HM : Hid (∀ v, Below w.heap.size w v → CL v m k) := fun v hv => h.below hv
  have HT : Hid (∀ v, Below w.heap.size w v → TblF v) := fun v hv => hT.below hv hg
  clear h hT hg
  have HB := Lib.hid ((Below.refl w.heap.size w).alloc (Nat.le_refl _) (.cells (arrC m k) 25))
  have HX := Lib.hid (BoxC.new w m k 25)
  go_enter Tryd.func8, Tryd.ntmps8
  go_wp2_with fail
  obtain ⟨W, hW⟩ : ∃ W, (w.alloc (.cells (arrC m k) 25)) = W := ⟨_, rfl⟩
  unfold arrC at hW
  rw [hW] at HB HX ⊢
  clear hW
  refine (szC_one m k 1048576 W (HM.out _ HB.out) (by omega) (by omega)).mono ?_
  rintro f w2 ⟨v1, rfl, hv1, hs1, hb1⟩
  have HS1 := Lib.hid hs1
  have HB2 := Lib.hid (HB.out.trans (hb1.mono HB.out.size))
  have HX2 := Lib.hid (HX.out.below hb1 HX.out.lt)
  clear hs1 hb1 HX
  by_cases n1 : v1 < 0
  · go_wp2_with fail
    go_ret
    exact YN.of rfl HB2.out
  have HMS : Hid (CSm m) := HS1.out (by omega)
  have HS : Hid (∀ v, Below w2.heap.size w2 v → v.cell? ⟨w.heap.size, 0, none⟩ = some (.slice k.va m.vars.length k.vc) ∧ v.cell? ⟨w.heap.size, 1, none⟩ = some (.slice k.aa m.arrs.length k.ac) ∧ v.cell? ⟨w.heap.size, 2, none⟩ = some (.slice k.la m.list.length k.lc)) := fun v hv => by
    have bx := HX2.out.below hv HX2.out.lt
    exact ⟨bx.c0, bx.c1, bx.c2⟩
  have HW : Hid (∀ v, Below w2.heap.size w2 v → CL v m k ∧ TblF v ∧ 0 < v.heap.size) := fun v hv => by
    have hb := HB2.out.trans (hv.mono HB2.out.size)
    exact ⟨HM.out _ hb, HT.out _ hb, (HT.out _ hb).lt⟩
  obtain ⟨x0, x1, x2⟩ := HS.out w2 (Below.refl _ _)
  obtain ⟨q, hq⟩ : ∃ q, usN m = q := ⟨_, rfl⟩
  clear HS1 HM HT
  go_wp2_with fail
  refine (toC_one m k w2 (HW.out _ (Below.refl _ _)).1 HMS.out).mono ?_
  rintro f w3 ⟨k1, rfl, hm1, hb3⟩
  have HM1 := Lib.hid hm1
  have HB3 := Lib.hid hb3
  clear hm1 hb3 x0 x1 x2
  go_wp2_with fail
  refine (sUs_one m k1 w3 HM1.out).mono ?_
  rintro f w4 ⟨rfl, hb4⟩
  rw [hq]
  have HB4 := Lib.hid (HB3.out.trans (hb4.mono HB3.out.size))
  obtain ⟨x0, x1, x2⟩ := HS.out w4 HB4.out
  clear hb4 HM1 HB3
  go_wp2_with fail
  refine (toC_one m k w4 (HW.out _ HB4.out).1 HMS.out).mono ?_
  rintro f w5 ⟨k2, rfl, hm2, hb5⟩
  have hX5 : BoxC (w5.alloc (.cells (arrC m k2) 29)) w5.heap.size m k2 := BoxC.new _ _ _ _
  have hB5 : Below w2.heap.size w2 (w5.alloc (.cells (arrC m k2) 29)) := (HB4.out.trans (hb5.mono HB4.out.size)).alloc (Nat.le_trans HB4.out.size hb5.size) _
  have hC5 : CL (w5.alloc (.cells (arrC m k2) 29)) m k2 := hm2.below ((Below.refl _ _).alloc (Nat.le_refl _) _)
  have HX5 := Lib.hid hX5
  have HB5 := Lib.hid hB5
  have HC5 := Lib.hid hC5
  have g0 := hX5.c0
  have g1 := hX5.c1
  have g2 := hX5.c2
  clear hm2 hb5 hX5 hB5 hC5 x0 x1 x2 HB4
  go_wp2_with fail
  obtain ⟨u5, hu5⟩ : ∃ u5, w5.alloc (.cells (arrC m k2) 29) = u5 := ⟨_, rfl⟩
  rw [hu5] at HX5 HB5 HC5 g0 g1 g2
  unfold arrC at hu5
  rw [hu5]
  clear hu5 g0 g1 g2
  refine (iUs_one m k2 u5 HC5.out (HW.out _ HB5.out).2.1).mono ?_
  rintro f u6 ⟨rfl, hb6⟩
  rw [hq]
  have HB6 := Lib.hid (HB5.out.trans (hb6.mono HB5.out.size))
  have HX6 := Lib.hid (HX5.out.below hb6 HX5.out.lt)
  have HC6 := Lib.hid (HC5.out.below hb6)
  obtain ⟨f0, f1, f2⟩ := HS.out u6 HB6.out
  have q0 := HX6.out.c0
  have q1 := HX6.out.c1
  have q2 := HX6.out.c2
  have HSQ : Hid (∀ v, Below u6.heap.size u6 v → v.cell? ⟨w.heap.size, 0, none⟩ = some (.slice k.va m.vars.length k.vc) ∧ v.cell? ⟨w.heap.size, 1, none⟩ = some (.slice k.aa m.arrs.length k.ac) ∧ v.cell? ⟨w.heap.size, 2, none⟩ = some (.slice k.la m.list.length k.lc) ∧ v.cell? ⟨w5.heap.size, 0, none⟩ = some (.slice k2.va m.vars.length k2.vc) ∧ v.cell? ⟨w5.heap.size, 1, none⟩ = some (.slice k2.aa m.arrs.length k2.ac) ∧ v.cell? ⟨w5.heap.size, 2, none⟩ = some (.slice k2.la m.list.length k2.lc)) := fun v hv => by
    obtain ⟨f0, f1, f2⟩ := HS.out v (HB6.out.trans (hv.mono HB6.out.size))
    have h := HX6.out.below hv HX6.out.lt
    exact ⟨f0, f1, f2, h.c0, h.c1, h.c2⟩
  have HWQ : Hid (∀ v, Below u6.heap.size u6 v → CL v m k) := fun v hv => (HW.out _ (HB6.out.trans (hv.mono HB6.out.size))).1
  have HBD6 : Hid (Below u6.heap.size u6 u6.drew) := (Below.refl _ _).drew
  clear hb6 HX5 HC5 HB5
  have hqq : (q != q) = false := by simp
  all_goals
    go_wp2_with fail
    go_region_held3 (fun v => v.cell? ⟨w.heap.size, 0, none⟩ = some (.slice k.va m.vars.length k.vc) ∧ v.cell? ⟨w.heap.size, 1, none⟩ = some (.slice k.aa m.arrs.length k.ac) ∧ v.cell? ⟨w.heap.size, 2, none⟩ = some (.slice k.la m.list.length k.lc) ∧ v.cell? ⟨w5.heap.size, 0, none⟩ = some (.slice k2.va m.vars.length k2.vc) ∧ v.cell? ⟨w5.heap.size, 1, none⟩ = some (.slice k2.aa m.arrs.length k2.ac) ∧ v.cell? ⟨w5.heap.size, 2, none⟩ = some (.slice k2.la m.list.length k2.lc)) (first | assumption | exact ⟨f0, f1, f2, q0, q1, q2⟩)
      (first
      | (go_at_call 13; (with_reducible refine (toC_one m k u6.drew (HWQ.out _ HBD6.out) HMS.out).mono ?_); rintro f u9 ⟨k3, rfl, hm3, hA⟩; have hA2 := HBD6.out.trans hA; have hS1 := HSQ.out _ hA2)
      | (go_at_call 15; (with_reducible refine (eqC_one m m k2 k3 u9 (HC6.out.below hA2) hm3).mono ?_); rintro f u10 ⟨rfl, hE⟩; rw [show decide (m = m) = true from decide_eq_true rfl]; have hB10 := hA2.trans (hE.mono hA2.size); have hS2 := HSQ.out _ hB10)
      | fail)
    have HB10 := Lib.hid (HB6.out.trans (hB10.mono HB6.out.size))
    clear hB10 hA hA2 hE hS1 hS2 q0 q1 q2 f0 f1 f2 HSQ HC6 HWQ
    go_wp2_with fail
    go_ret
    exact YN.of rfl (HB2.out.trans (HB10.out.mono HB2.out.size))

end Go.Proofs.YtbifbmpflhdijaaDoor
