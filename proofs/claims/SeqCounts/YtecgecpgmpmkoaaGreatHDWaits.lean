import Derived.Test.YtecgecpgmpmkoaaGreatHDLog
import Derived.Deep.DeepCutAuto
namespace Go.Proofs.YtecgecpgmpmkoaaGreat
open Go.ChangeShapes Go.WideShapes Go.ChangeAt Go.RowKit
set_option linter.unusedVariables false
end Go.Proofs.YtecgecpgmpmkoaaGreat
namespace Go.Proofs.YtecgecpgmpmkoaaGreat
open Go.ChangeShapes Go.WideShapes Go.ChangeAt Go.RowKit
set_option linter.unusedVariables false
end Go.Proofs.YtecgecpgmpmkoaaGreat
namespace Go.Proofs.YtecgecpgmpmkoaaGreat
open Go.ChangeShapes Go.WideShapes Go.ChangeAt Go.RowKit
set_option linter.unusedVariables false
def xN (s:Int):Nat:=(mx (nx (B s))).toNat
theorem xN_lt (s:Int):xN s<18446744073709551616:=(mx (nx (B s))).isLt
def wV (s mean:Int):Value:=
 if wq (xN s) mean.toNat<79228162514264337593543950336 then .tuple #[.int .u64 ((wq (xN s) mean.toNat / 4294967296:Nat):Int),.int .u64 (U (nx (B s))),.int .i64 0]
 else .tuple #[.int .u64 0,.int .u64 s,.int .i64 10]
theorem val_split (q:Nat):((q / 18446744073709551616:Nat):Int)*4294967296+((q % 18446744073709551616:Nat):Int) / 4294967296=((q / 4294967296:Nat):Int):=by omega
theorem arg_eq (x:Nat) (hx:x<18446744073709551616):(4194304-((lg (max x 1):Nat):Int))*45426=((hv x*45426:Nat):Int):=by
 have:=lg_lt (x:=max x 1) (by omega) (by omega)
 unfold hv
 omega
theorem hv_small (x:Nat):hv x*45426<18446744073709551616:=by have:=hv_le x;omega
theorem wait_any (s mean:Int) (hm:0≤mean∧mean≤18446744073709551615) (w:World):
  Calls Tryz.prog 208 #[.int .u64 s,.int .u64 mean] w fun r w'=>r=.returned (wV s mean)∧Below w.heap.size w w':=by
 obtain ⟨m,rfl⟩:=Int.eq_ofNat_of_zero_le hm.1
 have hx:=xN_lt s
 have hlg:=lg_lt (x:=max (xN s) 1) (by omega) (by omega)
 have hN: ∀w:World,Calls Tryz.prog 220 #[.int .u64 s] w fun e w'=>e=.returned (.tuple #[.int .u64 (U (nx (B s))),.int .u64 (xN s:Nat)])∧w'=w:=fun w=>next_any s w
 have hL: ∀w:World,Calls Tryz.prog 221 #[.int .u64 ((max (xN s) 1:Nat):Int)] w fun r w'=>r=.returned (.int .u64 (lg (max (xN s) 1):Nat))∧Below w.heap.size w w':=fun w=>log_any (max (xN s) 1) (by omega) (by omega) w
 have hM: ∀w:World,Calls Tryz.prog 222 #[.int .u64 m,.int .u64 ((4194304-((lg (max (xN s) 1):Nat):Int))*45426)] w fun e w'=>e=.returned (.tuple #[.int .u64 ((wq (xN s) m / 18446744073709551616:Nat):Int),.int .u64 ((wq (xN s) m % 18446744073709551616:Nat):Int)])∧w'=w:=fun w=>by
  rw [arg_eq _ hx]
  exact mul_any m _ (by omega) (hv_small _) w
 have hmax:max ((xN s:Nat):Int) 1=((max (xN s) 1:Nat):Int):=by omega
 unfold wV
 rw [Int.toNat_natCast]
 by_cases c:wq (xN s) m<79228162514264337593543950336
 ·rw [if_pos c,←val_split]
  exact wait_ok s m _ _ _ _ _ _ hL hmax (by omega) (by omega) (by omega) hN hM (by omega) w
 ·rw [if_neg c]
  exact wait_err s m _ _ _ _ _ _ hL hmax (by omega) (by omega) (by omega) hN hM (by simp;omega) w
end Go.Proofs.YtecgecpgmpmkoaaGreat
