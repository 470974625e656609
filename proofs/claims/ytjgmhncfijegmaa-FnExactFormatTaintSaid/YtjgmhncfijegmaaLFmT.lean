/- The law FnExactFormatTaint, walked: at every list of lists of bools the call returns true; nothing that was there has changed. -/
import Derived.Test.YtjgmhncfijegmaaFmT
namespace Go.Proofs.Ytjgmhncfijegmaa
open Go.RowKit
set_option linter.unusedVariables false

set_option maxRecDepth 100000 in
set_option maxHeartbeats 8000000 in
theorem law_FnExactFormatTaint (rs : List (List Bool)) (a : Option Addr) (c : Nat) (w : World) (h : BBs w (fun b => b < w.heap.size) rs a) :
    Calls Try.prog 3 #[.slice a rs.length c] w (YN true w) := by
  obtain ⟨n, hn⟩ : ∃ n, rs.length = n := ⟨_, rfl⟩
  have HN := Lib.hid hn
  have H : Hid (∀ v, Below w.heap.size w v → BBs v (fun b => b < v.heap.size) rs a) := fun v hv => h.below hv
  rw [hn]
  clear hn h
  go_enter Try.func3, Try.ntmps3
  go_wp2_with fail
  refine (szBB_one rs a n c 1048576 w (H.out w (Below.refl _ _)) HN.out (by omega) (by omega)).mono ?_
  rintro f w2 ⟨v1, rfl, hv1, hs1, rfl⟩
  have HS1 := Lib.hid hs1
  clear hs1
  by_cases n1 : v1 < 0
  · go_wp2_with fail
    go_ret
    exact YN.of rfl (Below.refl _ _)
  have HM : Hid (BBm rs) := HS1.out (by omega)
  have hn20 : n ≤ 1048576 := by rw [← HN.out]; exact HM.out.1
  clear HS1
  go_wp2_with fail
  refine (toBB_one rs a n c _ (H.out _ (Below.refl _ _)) HN.out HM.out).mono ?_
  rintro f w3 ⟨a3, c3, rfl, h3, hb3⟩
  have H3 := Lib.hid h3
  have HB3 := Lib.hid hb3
  clear h3 hb3
  go_wp2_with fail
  refine (sFTa_one rs a3 n c3 w3 H3.out HN.out hn20).mono ?_
  rintro f w4 ⟨rfl, hb4⟩
  have HB4 := Lib.hid (HB3.out.trans (hb4.mono HB3.out.size))
  clear hb4 H3
  go_wp2_with fail
  refine (toBB_one rs a n c w4 (H.out _ HB4.out) HN.out HM.out).mono ?_
  rintro f w5 ⟨a5, c5, rfl, h5, hb5⟩
  have H5 := Lib.hid h5
  have HB5 := Lib.hid (HB4.out.trans (hb5.mono HB4.out.size))
  clear h5 hb5
  go_wp2_with fail
  refine (iFTa_one rs a5 n c5 w5 H5.out HN.out hn20).mono ?_
  rintro f w6 ⟨rfl, hb6⟩
  have H6 := Lib.hid (H5.out.below hb6)
  have HB6 := Lib.hid (HB5.out.trans (hb6.mono HB5.out.size))
  clear hb6 H5
  go_wp2_with fail
  refine (toBB_one rs a n c w6 (H.out _ HB6.out) HN.out HM.out).mono ?_
  rintro f w7 ⟨a7, c7, rfl, h7, hb7⟩
  have H7 := Lib.hid h7
  have H67 := Lib.hid (H6.out.below hb7)
  have HB7 := Lib.hid (HB6.out.trans (hb7.mono HB6.out.size))
  clear h7 hb7
  go_wp2_with fail
  refine (eqBB_one rs rs a5 a7 n n c5 c7 w7 H67.out H7.out HN.out HN.out).mono ?_
  rintro f w8 ⟨rfl, hb8⟩
  rw [show decide (rs = rs) = true from decide_eq_true rfl]
  have HB8 := Lib.hid (HB7.out.trans (hb8.mono HB7.out.size))
  clear hb8
  go_wp2_with fail
  go_ret
  exact YN.of rfl HB8.out

end Go.Proofs.Ytjgmhncfijegmaa
