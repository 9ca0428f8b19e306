import Derived.Test.YtecgecpgmpmkoaaGreatHDBelow
import Derived.Lib.BitFns
import Derived.Lib.Mul64
import Derived.Test.YtecgecpgmpmkoaaGreatHDShelf
namespace Go.Proofs.YtecgecpgmpmkoaaGreat
open Go.ChangeShapes Go.WideShapes Go.ChangeAt Go.RowKit
def dg:Nat→Nat→Nat→Nat
 |0,_,f=>f
 |k+1,m,f=>if 170141183460469231731687303715884105728≤m*m then dg k (m*m / 18446744073709551616) (2*f+1) else dg k (m*m / 9223372036854775808) (2*f)
def inM (m:Nat):Prop:=9223372036854775808≤m∧m<18446744073709551616
theorem sq_lo {m:Nat} (h:inM m):85070591730234615865843651857942052864≤m*m:=Nat.mul_le_mul h.1 h.1
theorem sq_hi {m:Nat} (h:inM m):m*m<340282366920938463463374607431768211456:=Nat.mul_lt_mul_of_lt_of_lt h.2 h.2
theorem inM_one {m:Nat} (h:inM m) (c:170141183460469231731687303715884105728≤m*m):inM (m*m / 18446744073709551616):=by
 have h1:=sq_hi h
 unfold inM
 omega
theorem inM_two {m:Nat} (h:inM m) (c: ¬170141183460469231731687303715884105728≤m*m):inM (m*m / 9223372036854775808):=by
 have h1:=sq_lo h
 unfold inM
 omega
theorem dg_one {k m f:Nat} (c:170141183460469231731687303715884105728≤m*m):dg (k+1) m f=dg k (m*m / 18446744073709551616) (2*f+1):=by rw [dg,if_pos c]
theorem dg_two {k m f:Nat} (c: ¬170141183460469231731687303715884105728≤m*m):dg (k+1) m f=dg k (m*m / 9223372036854775808) (2*f):=by rw [dg,if_neg c]
theorem dg_rng: ∀k m f,f*2 ^ k≤dg k m f∧dg k m f<(f+1)*2 ^ k:=by
 intro k
 induction k with
 |zero=>intro m f;simp [dg]
 |succ k ih=>
  intro m f
  by_cases c:170141183460469231731687303715884105728≤m*m
  ·rw [dg_one c]
   have h:=ih (m*m / 18446744073709551616) (2*f+1)
   have e1:f*2 ^ (k+1)=2*f*2 ^ k:=by rw [Nat.pow_succ,Nat.mul_comm (2 ^ k) 2,←Nat.mul_assoc,Nat.mul_comm f 2]
   have e2:(f+1)*2 ^ (k+1)=(2*f+1+1)*2 ^ k:=by rw [Nat.pow_succ,Nat.mul_comm (2 ^ k) 2,←Nat.mul_assoc];congr 1;omega
   have e3:(2*f+1)*2 ^ k=2*f*2 ^ k+2 ^ k:=by rw [Nat.add_mul,Nat.one_mul]
   have hp:=Nat.two_pow_pos k
   rw [e1,e2]
   generalize 2 ^ k=P at*
   omega
  ·rw [dg_two c]
   have h:=ih (m*m / 9223372036854775808) (2*f)
   have e1:f*2 ^ (k+1)=2*f*2 ^ k:=by rw [Nat.pow_succ,Nat.mul_comm (2 ^ k) 2,←Nat.mul_assoc,Nat.mul_comm f 2]
   have e2:(f+1)*2 ^ (k+1)=(2*f+1)*2 ^ k+2 ^ k:=by
    rw [Nat.pow_succ,Nat.mul_comm (2 ^ k) 2,←Nat.mul_assoc,show (f+1)*2=(2*f+1)+1 by omega,Nat.add_mul (2*f+1),Nat.one_mul]
   have hp:=Nat.two_pow_pos k
   rw [e1,e2]
   generalize 2 ^ k=P at*
   omega
def atBit (x e:Nat):Prop:=2 ^ e≤x∧x<2 ^ (e+1)
theorem atBit_u {x e e':Nat} (h:atBit x e) (h':atBit x e'):e=e':=by
 unfold atBit at*
 rcases Nat.lt_trichotomy e e' with l|l|l
 ·have:2 ^ (e+1)≤2 ^ e':=Nat.pow_le_pow_right (by omega) l
  omega
 ·exact l
 ·have:2 ^ (e'+1)≤2 ^ e:=Nat.pow_le_pow_right (by omega) l
  omega
theorem bitLenAux_at: ∀f x,0<x→x<2 ^ f→0<Lib.bitLenAux f x∧Lib.bitLenAux f x≤f∧atBit x (Lib.bitLenAux f x-1):=by
 intro f
 induction f with
 |zero=>intro x h1 h2;simp at h2;omega
 |succ f ih=>
  intro x h1 h2
  rw [Lib.bitLenAux,if_neg (by omega)]
  by_cases h:x / 2=0
  ·have:Lib.bitLenAux f (x / 2)=0:=by
    rw [h]
    cases f<;>simp [Lib.bitLenAux]
   rw [this]
   refine ⟨by omega,by omega,?_⟩
   unfold atBit
   simp
   omega
  ·obtain ⟨i1,i2,i3⟩:=ih (x / 2) (by omega) (by rw [Nat.pow_succ] at h2;omega)
   refine ⟨by omega,by omega,?_⟩
   unfold atBit at*
   generalize Lib.bitLenAux f (x / 2)=b at*
   obtain ⟨c,rfl⟩: ∃c,b=c+1:=⟨b-1,by omega⟩
   rw [show 1+(c+1)-1=c+1 by omega,Nat.pow_succ 2 (c+1)]
   rw [show c+1-1=c by omega] at i3
   rw [Nat.pow_succ] at*
   omega
theorem bitLen_at {x:Nat} (h0:0<x) (h1:x<18446744073709551616):0<Lib.bitLen x∧Lib.bitLen x≤64∧atBit x (Lib.bitLen x-1):=bitLenAux_at 64 x h0 h1
def lg (x:Nat):Nat:=(Lib.bitLen x-1)*65536+dg 16 (x*2 ^ (64-Lib.bitLen x)) 0
theorem top_in {x e:Nat} (he:e≤63) (h:atBit x e):inM (x*2 ^ (63-e)):=by
 unfold atBit at h
 unfold inM
 have e1:2 ^ e*2 ^ (63-e)=9223372036854775808:=by rw [←Nat.pow_add,show e+(63-e)=63 by omega]
 have e2:2 ^ (e+1)*2 ^ (63-e)=18446744073709551616:=by rw [←Nat.pow_add,show e+1+(63-e)=64 by omega]
 have h1:=Nat.mul_le_mul_right (2 ^ (63-e)) h.1
 have h2:=Nat.mul_lt_mul_of_pos_right h.2 (Nat.pow_pos (n:=63-e) (show 0<2 by omega))
 omega
theorem lg_eq {x e:Nat} (h1:x<18446744073709551616) (h:atBit x e):lg x=e*65536+dg 16 (x*2 ^ (63-e)) 0∧e≤63:=by
 have h0:0<x:=by have:=h.1;have:=Nat.pow_pos (n:=e) (show 0<2 by omega);omega
 obtain ⟨b1,b2,b3⟩:=bitLen_at h0 h1
 have:=atBit_u h b3
 unfold lg
 subst this
 rw [show 64-Lib.bitLen x=63-(Lib.bitLen x-1) by omega]
 exact ⟨rfl,by omega⟩
theorem dg16 (m:Nat):dg 16 m 0<65536:=by have:=(dg_rng 16 m 0).2;omega
theorem lg_lt {x:Nat} (h0:0<x) (h1:x<18446744073709551616):lg x<4194304:=by
 obtain ⟨b1,b2,b3⟩:=bitLen_at h0 h1
 unfold lg
 have:=dg16 (x*2 ^ (64-Lib.bitLen x))
 omega
def hv (x:Nat):Nat:=4194304-lg (max x 1)
theorem hv_le (x:Nat):hv x≤4194304:=by unfold hv;omega
def wq (x mean:Nat):Nat:=mean*(hv x*45426)
end Go.Proofs.YtecgecpgmpmkoaaGreat
namespace Go.Proofs.YtecgecpgmpmkoaaGreat
open Go.ChangeShapes Go.WideShapes Go.ChangeAt Go.RowKit
set_option linter.unusedVariables false
theorem len_any (x:Int) (h:0≤x∧x≤18446744073709551615) (w:World):
  Calls Tryz.prog 228 #[.int .u64 x] w fun e w'=>e=.returned (.int .i64 (Lib.bitLen x.toNat))∧w'=w:=Any.bits_Len64 laysLen x w h.1 h.2
theorem mul_any (x y:Nat) (hx:x<18446744073709551616) (hy:y<18446744073709551616) (w:World):
  Calls Tryz.prog 222 #[.int .u64 x,.int .u64 y] w fun e w'=>e=.returned (.tuple #[.int .u64 ((x*y / 18446744073709551616:Nat):Int),.int .u64 ((x*y % 18446744073709551616:Nat):Int)])∧w'=w:=Any.bits_Mul64 laysMul x y hx hy w
theorem or_low {a b:Int} (ha:0≤a∧a<9223372036854775808) (hb:0≤b∧b≤1):bits .or .u64 (IntKind.u64.wrap (a*2)) b=a*2+b:=by
 rw [wrap_U,U_B ⟨by omega,by omega⟩,u64_or (a*2) b (by omega) (by omega) (by omega) (by omega),nat_join 1 _ _ (by omega) (by omega)]
 omega
theorem or_low' {a b:Int} (ha:0≤a∧a<9223372036854775808) (hb:0≤b∧b≤1):bits .or .u64 (a*2) b=a*2+b:=by
 rw [←or_low ha hb,wrap_U,U_B ⟨by omega,by omega⟩]
theorem low0 {m:Nat} (hm:inM m) (c: ¬170141183460469231731687303715884105728≤m*m):(((m*m / 18446744073709551616:Nat)):Int)*2+((m*m % 18446744073709551616:Nat):Int) / 9223372036854775808=((m*m / 9223372036854775808:Nat):Int):=by
 generalize m*m=p at*
 omega
set_option maxRecDepth 100000 in
theorem log_core (x e M:Nat) (he:e≤63) (hx:x<18446744073709551616) (hM:inM M) (hMw:Hid (IntKind.u64.wrap ((x:Int)*2 ^ (63-e))=(M:Int)))
  (HL:Hid (∀w:World,Calls Tryz.prog 228 #[.int .u64 x] w fun r w'=>r=.returned (.int .i64 ((e:Int)+1))∧w'=w)) (w:World):
  Calls Tryz.prog 221 #[.int .u64 x] w fun r w'=>r=.returned (.int .u64 ((e*65536+dg 16 M 0:Nat):Int))∧Below w.heap.size w w':=by
 go_enter Tryz.func221,Tryz.ntmps221
 go_wp2_with (go_at_call 228;with_reducible refine (HL.out _).mono ?_;rintro e w' ⟨rfl,hw⟩;subst w')
 rw [hMw.out]
 clear HL hMw
 go_loopw [4,5,17] (fun vm vf vi wr=> ∃(k m f:Nat),k≤16∧inM m∧vm=.int .u64 m∧vf=.int .u64 f∧vi=.int .i64 k∧f<2 ^ k∧dg 16 M 0=dg (16-k) m f∧Below w.heap.size w wr) (fun _ _ vi _=>16-(intOf vi).toNat)
 case atStart=>exact ⟨0,M,0,by omega,hM,rfl,rfl,rfl,by omega,rfl,Below.refl _ _⟩
 case round=>
  obtain ⟨k,m,f,hk,hm,rfl,rfl,rfl,hf,hd,hb⟩:=hrel
  have HD:Hid (dg 16 M 0=dg (16-k) m f):=hd
  have HF:Hid (f<2 ^ k):=hf
  have HI:Hid (inM m):=hm
  clear hd hf hm hM
  by_cases hlt:k<16
  ·have hf2:f<65536:=Nat.lt_of_lt_of_le HF.out (show 2 ^ k≤2 ^ 16 from Nat.pow_le_pow_right (by omega) (by omega))
   have HM:Hid (∀w:World,Calls Tryz.prog 222 #[.int .u64 m,.int .u64 m] w fun e w'=>e=.returned (.tuple #[.int .u64 ((m*m / 18446744073709551616:Nat):Int),.int .u64 ((m*m % 18446744073709551616:Nat):Int)])∧w'=w):=fun w=>mul_any m m HI.out.2 HI.out.2 w
   by_cases c:170141183460469231731687303715884105728≤m*m
   ·have HC:Hid (170141183460469231731687303715884105728≤m*m):=c
    obtain ⟨H,hH⟩: ∃H:Nat,m*m / 18446744073709551616=H:=⟨_,rfl⟩
    obtain ⟨L,hL⟩: ∃L:Nat,m*m % 18446744073709551616=L:=⟨_,rfl⟩
    have hsq:=sq_hi HI.out
    have h1:(H:Int) / 9223372036854775808=1:=by omega
    rw [hH,hL] at HM
    have HH:Hid (m*m / 18446744073709551616=H):=hH
    clear hH hL c hsq
    have HO1:Hid (bits .or .u64 ((f:Int)*2) 1=(f:Int)*2+1):=or_low' (by omega) (by omega)
    go_wp2_with (go_at_call 222;with_reducible refine (HM.out _).mono ?_;rintro e w' ⟨rfl,hw⟩;subst w')
    go_roundw
    case rel=>exact ⟨k+1,H,2*f+1,by omega,HH.out▸inM_one HI.out HC.out,rfl,by first|(rw [HO1.out];congr 1;omega)|(congr 1;omega),by go_num,by have:=HF.out;rw [Nat.pow_succ];omega,by rw [HD.out,show 16-k=(16-(k+1))+1 by omega,dg_one HC.out,HH.out],hb⟩
    case measure=>simp [intOf];omega
   ·have HC:Hid (m*m<170141183460469231731687303715884105728):=Nat.lt_of_not_le c
    have HLO:Hid ((((m*m / 18446744073709551616:Nat)):Int)*2+((m*m % 18446744073709551616:Nat):Int) / 9223372036854775808=((m*m / 9223372036854775808:Nat):Int)):=low0 HI.out c
    obtain ⟨H,hH⟩: ∃H:Nat,m*m / 18446744073709551616=H:=⟨_,rfl⟩
    obtain ⟨L,hL⟩: ∃L:Nat,m*m % 18446744073709551616=L:=⟨_,rfl⟩
    have h1:(H:Int) / 9223372036854775808=0:=by omega
    have h2:(H:Int)<9223372036854775808:=by omega
    have h3:(L:Int) / 9223372036854775808≤1:=by omega
    rw [hH,hL] at HM HLO
    clear hH hL c
    have HO1:Hid (bits .or .u64 ((f:Int)*2) 0=(f:Int)*2+0):=or_low' (by omega) (by omega)
    have HO:Hid (bits .or .u64 ((H:Int)*2) ((L:Int) / 9223372036854775808)=(H:Int)*2+(L:Int) / 9223372036854775808):=or_low' (by omega) (by omega)
    clear h3
    clear h2
    go_wp2_with (go_at_call 222;with_reducible refine (HM.out _).mono ?_;rintro e w' ⟨rfl,hw⟩;subst w')
    go_roundw
    case rel=>exact ⟨k+1,m*m / 9223372036854775808,2*f,by omega,inM_two HI.out (Nat.not_le.2 HC.out),by first|(rw [HO.out,HLO.out])|(rw [←HLO.out,←HO.out]),by first|(rw [HO1.out];congr 1;omega)|(congr 1;omega),by go_num,by have:=HF.out;rw [Nat.pow_succ];omega,by rw [HD.out,show 16-k=(16-(k+1))+1 by omega,dg_two (Nat.not_le.2 HC.out)],hb⟩
    case measure=>simp [intOf];omega
  ·obtain rfl:k=16:=by omega
   have hd:dg 16 M 0=f:=HD.out
   have hf:=HF.out
   clear HD HF HI
   go_wp2
   go_ret
   refine ⟨congrArg (fun z=>Ending.returned (.int .u64 z)) ?_,hb⟩
   rw [hd]
   omega
theorem log_any (x:Nat) (h0:0<x) (hx:x<18446744073709551616) (w:World):
  Calls Tryz.prog 221 #[.int .u64 x] w fun r w'=>r=.returned (.int .u64 (lg x:Nat))∧Below w.heap.size w w':=by
 obtain ⟨b1,b2,b3⟩:=bitLen_at h0 hx
 obtain ⟨e,he⟩: ∃e,Lib.bitLen x=e+1:=⟨Lib.bitLen x-1,by omega⟩
 rw [he,show e+1-1=e by omega] at b3
 have h1:=lg_eq hx b3
 have h2:=top_in h1.2 b3
 rw [h1.1]
 refine log_core x e (x*2 ^ (63-e)) h1.2 hx h2 ?_ (fun w=> ?_) w
 ·have e1:(x:Int)*2 ^ (63-e)=((x*2 ^ (63-e):Nat):Int):=by simp
  have h3:=h2.2
  rw [e1]
  show IntKind.u64.wrap _=_
  rw [wrap_U,U_B ⟨by omega,by omega⟩]
 ·have:=len_any (x:Int) ⟨by omega,by omega⟩ w
  rw [Int.toNat_natCast,he] at this
  exact this
theorem or_hi {a b:Int} (ha:0≤a∧a<4294967296) (hb:0≤b∧b<4294967296):bits .or .u64 (a*4294967296) b=a*4294967296+b:=by
 rw [u64_or (a*4294967296) b (by omega) (by omega) (by omega) (by omega),nat_join 32 _ _ (by omega) (by omega)]
 omega
theorem wait_err (s mean t x mx1 lgx H L:Int) (hmx:Hid (∀w:World,Calls Tryz.prog 221 #[.int .u64 mx1] w fun r w'=>r=.returned (.int .u64 lgx)∧Below w.heap.size w w'))
  (hx:max x 1=mx1) (hl:0≤lgx∧lgx<4194304) (hH0:0≤H) (hL0:0≤L∧L≤18446744073709551615)
  (HN:Hid (∀w:World,Calls Tryz.prog 220 #[.int .u64 s] w fun e w'=>e=.returned (.tuple #[.int .u64 t,.int .u64 x])∧w'=w))
  (HM:Hid (∀w:World,Calls Tryz.prog 222 #[.int .u64 mean,.int .u64 ((4194304-lgx)*45426)] w fun e w'=>e=.returned (.tuple #[.int .u64 H,.int .u64 L])∧w'=w)) (hh:(H / 4294967296==0)=false) (w:World):
  Calls Tryz.prog 208 #[.int .u64 s,.int .u64 mean] w fun r w'=>r=.returned (.tuple #[.int .u64 0,.int .u64 s,.int .i64 10])∧Below w.heap.size w w':=by
 go_enter Tryz.func208,Tryz.ntmps208
 go_wp2_with (first|(go_at_call 220;with_reducible refine (HN.out _).mono ?_;rintro e w' ⟨rfl,hw⟩;subst w')|(go_at_call 221;with_reducible refine (hmx.out _).mono ?_;rintro e w1 ⟨rfl,hb1⟩)|(go_at_call 222;with_reducible refine (HM.out _).mono ?_;rintro e w' ⟨rfl,hw⟩;subst w'))
 go_returns
 exact ⟨rfl,hb1⟩
theorem wait_ok (s mean t x mx1 lgx H L:Int) (hmx:Hid (∀w:World,Calls Tryz.prog 221 #[.int .u64 mx1] w fun r w'=>r=.returned (.int .u64 lgx)∧Below w.heap.size w w'))
  (hx:max x 1=mx1) (hl:0≤lgx∧lgx<4194304) (hH0:0≤H) (hL0:0≤L∧L≤18446744073709551615)
  (HN:Hid (∀w:World,Calls Tryz.prog 220 #[.int .u64 s] w fun e w'=>e=.returned (.tuple #[.int .u64 t,.int .u64 x])∧w'=w))
  (HM:Hid (∀w:World,Calls Tryz.prog 222 #[.int .u64 mean,.int .u64 ((4194304-lgx)*45426)] w fun e w'=>e=.returned (.tuple #[.int .u64 H,.int .u64 L])∧w'=w)) (hh:H / 4294967296=0) (w:World):
  Calls Tryz.prog 208 #[.int .u64 s,.int .u64 mean] w fun r w'=>r=.returned (.tuple #[.int .u64 (H*4294967296+L / 4294967296),.int .u64 t,.int .i64 0])∧Below w.heap.size w w':=by
 have HO:Hid (bits .or .u64 (H*4294967296) (L / 4294967296)=H*4294967296+L / 4294967296):=or_hi (by omega) (by omega)
 go_enter Tryz.func208,Tryz.ntmps208
 go_wp2_with (first|(go_at_call 220;with_reducible refine (HN.out _).mono ?_;rintro e w' ⟨rfl,hw⟩;subst w')|(go_at_call 221;with_reducible refine (hmx.out _).mono ?_;rintro e w1 ⟨rfl,hb1⟩)|(go_at_call 222;with_reducible refine (HM.out _).mono ?_;rintro e w' ⟨rfl,hw⟩;subst w'))
 go_returns
 exact ⟨by rw [←HO.out];rfl,hb1⟩
end Go.Proofs.YtecgecpgmpmkoaaGreat
