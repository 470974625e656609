/- The draw of statements and blocks of the model's package, down to three levels. -/
import Derived.Test.YtgfagdjadmpklaaDrV
namespace Go.Proofs.Ytgfagdjadmpklaa
open Go.RowKit
set_option linter.unusedVariables false

theorem drStmt1 (p : Pg) (k : PC) (hv : 1 ≤ p.vars.length) (hv' : p.vars.length ≤ 1048576) (ha' : p.arrs.length ≤ 1048576) (B m : Nat) (w : World) (h : RdU w B m) (hm : m < 1099300000000) :
    Calls Try.prog 105 #[.pointer (some ⟨B, 0, none⟩), aggP p k, .int .i64 1] w (DrSt 8 1 w B (m + 20010)) :=
  drStmt_of p k hv hv' ha' 7 0 0 1099400000000 (by omega) (by omega) 1 (fun h => absurd h (by omega)) (by omega) (by omega) B m w h (by omega)
theorem drBlock1 (p : Pg) (k : PC) (hv : 1 ≤ p.vars.length) (hv' : p.vars.length ≤ 1048576) (ha' : p.arrs.length ≤ 1048576) (B m N : Nat) (w : World) (h : RdU w B m) (hN : N ≤ 4) (hm : m + 4 * 20010 < 1099300000000) :
    Calls Try.prog 98 #[.pointer (some ⟨B, 0, none⟩), aggP p k, .int .i64 1, .int .i64 (N : Int)] w (DrBl 8 1 N w B (m + N * 20010)) :=
  drBlock_of p k 8 1 20010 1099300000000 (by omega) 1 (fun B m w h hm => drStmt1 p k hv hv' ha' B m w h hm) B m N w h hN hm
theorem drStmt2 (p : Pg) (k : PC) (hv : 1 ≤ p.vars.length) (hv' : p.vars.length ≤ 1048576) (ha' : p.arrs.length ≤ 1048576) (B m : Nat) (w : World) (h : RdU w B m) (hm : m < 1099290000000) :
    Calls Try.prog 105 #[.pointer (some ⟨B, 0, none⟩), aggP p k, .int .i64 2] w (DrSt 9 5 w B (m + 180090)) :=
  drStmt_of p k hv hv' ha' 8 1 20010 1099300000000 (by omega) (by omega) 2 (fun _ B m N w h hN hm => drBlock1 p k hv hv' ha' B m N w h hN hm) (by omega) (by omega) B m w h (by omega)
theorem drBlock2 (p : Pg) (k : PC) (hv : 1 ≤ p.vars.length) (hv' : p.vars.length ≤ 1048576) (ha' : p.arrs.length ≤ 1048576) (B m N : Nat) (w : World) (h : RdU w B m) (hN : N ≤ 4) (hm : m + 4 * 180090 < 1099290000000) :
    Calls Try.prog 98 #[.pointer (some ⟨B, 0, none⟩), aggP p k, .int .i64 2, .int .i64 (N : Int)] w (DrBl 9 5 N w B (m + N * 180090)) :=
  drBlock_of p k 9 5 180090 1099290000000 (by omega) 2 (fun B m w h hm => drStmt2 p k hv hv' ha' B m w h hm) B m N w h hN hm
theorem drStmt3 (p : Pg) (k : PC) (hv : 1 ≤ p.vars.length) (hv' : p.vars.length ≤ 1048576) (ha' : p.arrs.length ≤ 1048576) (B m : Nat) (w : World) (h : RdU w B m) (hm : m < 1099280000000) :
    Calls Try.prog 105 #[.pointer (some ⟨B, 0, none⟩), aggP p k, .int .i64 3] w (DrSt 10 21 w B (m + 1460730)) :=
  drStmt_of p k hv hv' ha' 9 5 180090 1099290000000 (by omega) (by omega) 3 (fun _ B m N w h hN hm => drBlock2 p k hv hv' ha' B m N w h hN hm) (by omega) (by omega) B m w h (by omega)
theorem drBlock3 (p : Pg) (k : PC) (hv : 1 ≤ p.vars.length) (hv' : p.vars.length ≤ 1048576) (ha' : p.arrs.length ≤ 1048576) (B m N : Nat) (w : World) (h : RdU w B m) (hN : N ≤ 4) (hm : m + 4 * 1460730 < 1099280000000) :
    Calls Try.prog 98 #[.pointer (some ⟨B, 0, none⟩), aggP p k, .int .i64 3, .int .i64 (N : Int)] w (DrBl 10 21 N w B (m + N * 1460730)) :=
  drBlock_of p k 10 21 1460730 1099280000000 (by omega) 3 (fun B m w h hm => drStmt3 p k hv hv' ha' B m w h hm) B m N w h hN hm

end Go.Proofs.Ytgfagdjadmpklaa
