import Derived.Test.YtecgecpgmpmkoaaGreatRows
import Derived.WalkKit
import Derived.ProofKit
import Derived.OpenShut
import Derived.Below
import Derived.Laws.BitsAllLaws
import Derived.ChangeOld
import Derived.Handy
import Derived.Deep.RegionHeld3
import Derived.WalkLawsBesides
namespace Go.Proofs.YtecgecpgmpmkoaaGreat
open Go.ChangeShapes Go.WideShapes Go.ChangeAt Go.RowKit
def B (x:Int):BitVec 64:=BitVec.ofInt 64 x
def U (b:BitVec 64):Int:=(b.toNat:Int)
theorem U_lo (b:BitVec 64):0≤U b:=Int.natCast_nonneg _
theorem U_hi (b:BitVec 64):U b≤18446744073709551615:=by unfold U;have:=b.isLt;omega
theorem U_rng (b:BitVec 64):0≤U b∧U b≤18446744073709551615:=⟨U_lo b,U_hi b⟩
theorem B_U (b:BitVec 64):B (U b)=b:=by
 apply BitVec.eq_of_toNat_eq
 unfold B U
 rw [BitVec.toNat_ofInt]
 have:=b.isLt
 omega
theorem wrap_U (x:Int):IntKind.u64.wrap x=U (B x):=by
 unfold U B
 rw [BitVec.toNat_ofInt]
 simp only [IntKind.wrap,IntKind.bits,IntKind.signed]
 simp
 omega
theorem U_B {x:Int} (h:0≤x∧x≤18446744073709551615):U (B x)=x:=by
 unfold U B
 rw [BitVec.toNat_ofInt]
 omega
theorem B_wrap (x:Int):B (IntKind.u64.wrap x)=B x:=by rw [wrap_U,B_U]
theorem B_mul (x y:Int):B (x*y)=B x*B y:=by unfold B;exact BitVec.ofInt_mul x y
theorem B_add (x y:Int):B (x+y)=B x+B y:=by unfold B;exact BitVec.ofInt_add x y
theorem xor_U {x y:Int} :bits .xor .u64 x y=U (B x ^^^ B y):=by
 have:bits .xor .u64 x y=IntKind.u64.wrap (U (B x ^^^ B y)):=rfl
 rw [this,wrap_U,B_U]
theorem shr_U (b:BitVec 64) (k:Nat):U b / 2 ^ k=U (b>>>k):=by
 unfold U
 rw [BitVec.toNat_ushiftRight,Nat.shiftRight_eq_div_pow,Int.natCast_ediv,Int.natCast_pow]
 rfl
theorem shr_B {x:Int} (h:0≤x∧x≤18446744073709551615) (k:Nat):x / 2 ^ k=U (B x>>>k):=by
 rw [←shr_U,U_B h]
def mx (x:BitVec 64):BitVec 64:=
 let y:=(x ^^^ (x>>>32))*11400714819323198485#64
 y ^^^ (y>>>29)
def nx (s:BitVec 64):BitVec 64:=s*6364136223846793005#64+1442695040888963407#64
def bk (s:BitVec 64):BitVec 64:=(s-1442695040888963407#64)*13877824140714322085#64
def sd (m k:BitVec 64):BitVec 64:=mx (m+(k+1#64)*15074714826142052245#64)
end Go.Proofs.YtecgecpgmpmkoaaGreat
namespace Go.Proofs.YtecgecpgmpmkoaaGreat
open Go.ChangeShapes Go.WideShapes Go.ChangeAt Go.RowKit
theorem mix_val (x:Int) (h:0≤x∧x≤18446744073709551615):
  bits .xor .u64 (IntKind.u64.wrap (bits .xor .u64 x (x / 4294967296)*11400714819323198485)) (IntKind.u64.wrap (bits .xor .u64 x (x / 4294967296)*11400714819323198485) / 536870912)=U (mx (B x)):=by
 have e1:x / (4294967296:Int)=U (B x>>>32):=shr_B h 32
 have e2: ∀b:BitVec 64,U b / (536870912:Int)=U (b>>>29):=fun b=>shr_U b 29
 simp only [e1,xor_U,wrap_U,B_mul,B_U,e2]
 rfl
theorem nx_val (s:Int):IntKind.u64.wrap (IntKind.u64.wrap (s*6364136223846793005)+1442695040888963407)=U (nx (B s)):=by
 rw [wrap_U,B_add,B_wrap,B_mul]
 rfl
theorem sd_val (m k:Int):IntKind.u64.wrap (m+IntKind.u64.wrap (IntKind.u64.wrap (IntKind.u64.wrap k+1)*15074714826142052245))=U (B m+(B k+1#64)*15074714826142052245#64):=by
 rw [wrap_U,B_add,B_wrap,B_mul,B_wrap,B_add,B_wrap]
 rfl
theorem mix_any (x:Int) (h:0≤x∧x≤18446744073709551615) (w:World):
  Calls Tryz.prog 134 #[.int .u64 x] w fun e w'=>e=.returned (.int .u64 (U (mx (B x))))∧w'=w:=by
 go_enter Tryz.func134,Tryz.ntmps134
 go_wp2
 rw [mix_val x h]
 go_ret
 exact ⟨rfl,rfl⟩
theorem next_any (s:Int) (w:World):
  Calls Tryz.prog 220 #[.int .u64 s] w fun e w'=>e=.returned (.tuple #[.int .u64 (U (nx (B s))),.int .u64 (U (mx (nx (B s))))])∧w'=w:=by
 go_enter Tryz.func220,Tryz.ntmps220
 go_wp2_with fail
 rw [nx_val]
 refine (mix_any _ (U_rng _) _).mono ?_
 rintro e w' ⟨rfl,rfl⟩
 rw [B_U]
 go_wp2
 go_ret2
 exact ⟨rfl,rfl⟩
theorem seed_any (m k:Int) (w:World):
  Calls Tryz.prog 103 #[.int .u64 m,.int .i64 k] w fun e w'=>e=.returned (.int .u64 (U (sd (B m) (B k))))∧w'=w:=by
 go_enter Tryz.func103,Tryz.ntmps103
 go_wp2_with fail
 rw [sd_val]
 refine (mix_any _ (U_rng _) _).mono ?_
 rintro e w' ⟨rfl,rfl⟩
 rw [B_U]
 go_wp2
 go_ret
 exact ⟨rfl,rfl⟩
end Go.Proofs.YtecgecpgmpmkoaaGreat
namespace Go.Proofs.YtecgecpgmpmkoaaGreat
open Go.ChangeShapes Go.WideShapes Go.ChangeAt Go.RowKit
end Go.Proofs.YtecgecpgmpmkoaaGreat
namespace Go.Proofs.YtecgecpgmpmkoaaGreat
open Go.ChangeShapes Go.WideShapes Go.ChangeAt Go.RowKit
def blw:Nat→BitVec 64→Int→BitVec 64
 |0,s,_=>s
 |k+1,s,w=>if U (mx (nx s))<w then blw k (nx s) w else nx s
theorem blw_stop {k:Nat} {s:BitVec 64} {w:Int} (h: ¬U (mx (nx s))<w):blw (k+1) s w=nx s:=by rw [blw,if_neg h]
theorem blw_more {k:Nat} {s:BitVec 64} {w:Int} (h:U (mx (nx s))<w):blw (k+1) s w=blw k (nx s) w:=by rw [blw,if_pos h]
theorem uneven_val {n:Int} (hn:0<n∧n≤18446744073709551615):(IntKind.u64.wrap (-n)).tmod n=18446744073709551616 % n:=by
 have h3:IntKind.u64.wrap (-n)=18446744073709551616-n:=by
  simp only [IntKind.wrap,IntKind.bits,IntKind.signed]
  simp
  omega
 rw [h3,Int.tmod_eq_emod_of_nonneg (by omega),Int.sub_emod_right]
set_option maxRecDepth 100000 in
theorem below_core (s n W:Int) (b:BitVec 64) (hW:W=(IntKind.u64.wrap (-n)).tmod n) (hs:s=U b) (hn:0<n∧n≤18446744073709551615) (w:World):
  Calls Tryz.prog 207 #[.int .u64 s,.int .u64 n] w fun e w'=>e=.returned (.tuple #[.int .u64 (U (mx (blw 8 b W)) % n),.int .u64 (U (blw 8 b W)),.int .i64 0])∧w'=w:=by
 have HS:Hid (s=U b):=hs
 clear hs
 have h0:(n==0)=false:=by simp;omega
 go_enter Tryz.func207,Tryz.ntmps207
 go_wp2
 rw [←hW]
 clear hW
 go_loop [0,8,16] (fun vs vx vi=> ∃(k:Nat) (t:BitVec 64) (x:Int),k≤8∧vs=.int .u64 (U t)∧vi=.int .i64 k∧vx=.int .u64 x∧(0<k→x=U (mx t))∧blw 8 b W=blw (8-k) t W) (fun _ _ vi=>8-(intOf vi).toNat)
 case atStart=>exact ⟨0,b,0,by omega,by rw [HS.out],rfl,rfl,by omega,rfl⟩
 case round=>
  obtain ⟨k,t,x,hk,rfl,rfl,rfl,hx,hbl⟩:=hrel
  have HB:Hid (blw 8 b W=blw (8-k) t W):=hbl
  have HX:Hid (0<k→x=U (mx t)):=hx
  clear hbl hx
  have hU:=U_rng t
  by_cases hlt:k<8
  ·by_cases hc:U (mx (nx t))<W
   ·go_wp2_with (go_at_call 220;refine (next_any _ _).mono ?_;rintro e w' ⟨rfl,hw⟩;subst w';rw [B_U])
    go_round
    case rel=>exact ⟨k+1,nx t,_,by omega,rfl,by go_num,rfl,fun _=>rfl,by rw [HB.out,show 8-k=(8-(k+1))+1 by omega,blw_more hc]⟩
    case measure=>simp [intOf];omega
   ·go_wp2_with (go_at_call 220;refine (next_any _ _).mono ?_;rintro e w' ⟨rfl,hw⟩;subst w';rw [B_U])
    have hv:blw 8 b W=nx t:=by rw [HB.out,show 8-k=(7-k)+1 by omega,blw_stop (by omega)]
    rw [hv,Int.tmod_eq_emod_of_nonneg (U_lo _)]
    go_returns
    exact ⟨rfl,rfl⟩
  ·have hk8:k=8:=by omega
   have hv:blw 8 b W=t:=by rw [HB.out,show 8-k=0 by omega];rfl
   have hx:x=U (mx t):=HX.out (by omega)
   have HV:Hid (blw 8 b W=t):=hv
   subst hx
   clear hv hk8 HB HX
   go_wp2
   rw [HV.out,Int.tmod_eq_emod_of_nonneg (U_lo _)]
   go_returns
   exact ⟨rfl,rfl⟩
set_option maxRecDepth 100000 in
theorem below_any (s n:Int) (hs:0≤s∧s≤18446744073709551615) (hn:0<n∧n≤18446744073709551615) (w:World):
  Calls Tryz.prog 207 #[.int .u64 s,.int .u64 n] w fun e w'=>e=.returned (.tuple #[.int .u64 (U (mx (blw 8 (B s) (18446744073709551616 % n))) % n),.int .u64 (U (blw 8 (B s) (18446744073709551616 % n))),.int .i64 0])∧w'=w:=
 below_core s n (18446744073709551616 % n) (B s) (uneven_val hn).symm (U_B hs).symm hn w
end Go.Proofs.YtecgecpgmpmkoaaGreat
