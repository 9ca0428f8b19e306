import Derived.Test.YtecgecpgmpmkoaaGreatHM7
import Derived.Test.YtecgecpgmpmkoaaGreatHM9b
import Derived.Test.YtecgecpgmpmkoaaGreatHV14
namespace Go.Proofs.YtecgecpgmpmkoaaGreat
open Go.ChangeShapes Go.WideShapes Go.ChangeAt Go.RowKit
set_option linter.unusedVariables false
def RO (w0 w':World) (base mb nw:Nat) (C:Nat→Value) (M:Mc) (f:Int) (M':Mc):Prop:=(f=0→ ∃ov,MW w0 w' base mb nw C { M' with ov:=ov })∧(f≠0→ ∃M2,MW w0 w' base mb nw C M2∧M2.used=M.used)
theorem RS.ro {w0 w':World} {base mb nw:Nat} {C:Nat→Value} {M:Mc} {f:Int} {M':Mc} (h:RS w0 w' base mb nw C M f M'):RO w0 w' base mb nw C M f M':=⟨fun e=>⟨M'.ov,h.1 e⟩,h.2⟩
def sentM (cl:Cl) (kind:Int) (M:Mc):Mc:= { popM (popM (popM M)) with on:=M.on+1,oF:=oApp M (sentEv cl M kind (topM M) (topM (popM M)) (topM (popM (popM M)))),sent:=u64of (M.sent+1) }
theorem send_any (w0 w:World) (base mb nw:Nat) (C:Nat→Value) (M:Mc) (cl:Cl) (code:Value) (hC:CC C cl code) (kind:Int) (h:MW w0 w base mb nw C M) (hh:3≤M.hi) (h64:M.hi≤64) (ht:u64ok cl.time) (hon:M.on≤16):
  Calls Tryz.prog 178 #[.pointer (some ⟨mb,0,none⟩),.int .i64 kind] w fun e w'=>e=.returned (.int .i64 (sendF cl M (topM M) (topM (popM M))))∧RO w0 w' base mb nw C M (sendF cl M (topM M) (topM (popM M))) (sentM cl kind M):=by
 by_cases hz:sendF cl M (topM M) (topM (popM M))=0
 ·rw [hz]
  exact (send_ok w0 w base mb nw C M cl code hC kind h hh h64 ht hz hon).mono fun e w' ⟨h1,ov,h2⟩=>⟨h1,fun _=>⟨ov,h2⟩,fun h=>absurd rfl h⟩
 ·have hov: ∃p c,M.ov=.slice p M.on c:=by
   rcases h.out.form with ⟨h1,h2⟩|⟨g,c,h1,_⟩
   ·exact ⟨none,0,by rw [h1,h2]⟩
   ·exact ⟨_,_,h1⟩
  exact (send_bad w0 w base mb nw C M cl code hC kind h hh h64 ht hz hov).mono fun e w' ⟨h1,h2⟩=>⟨h1,fun h=>absurd h hz,fun _=>h2⟩
set_option maxRecDepth 100000 in
set_option maxHeartbeats 4000000 in
theorem do_39 (w0 w:World) (base mb nw:Nat) (C:Nat→Value) (M:Mc) (cl:Cl) (code:Value) (hC:CC C cl code) (a b:Int) (h:MW w0 w base mb nw C M) (hh:3≤M.hi) (h64:M.hi≤64) (ht:u64ok cl.time) (hon:M.on≤16):
  Calls Tryz.prog 155 #[.pointer (some ⟨mb,0,none⟩),.agg #[.int .i64 39,.int .i64 a,.int .i64 b]] w fun e w'=>e=.returned (.int .i64 (sendF cl M (topM M) (topM (popM M))))∧RO w0 w' base mb nw C M (sendF cl M (topM M) (topM (popM M))) (sentM cl a M):=by
 obtain ⟨wb,hwb⟩: ∃wb,w.alloc (.cells #[.int .i64 39,.int .i64 a,.int .i64 b] 139)=wb:=⟨_,rfl⟩
 obtain ⟨hbb,hbx,hsz⟩:=inbox w 39 a b wb hwb
 have HB:Hid (w.alloc (.cells #[.int .i64 39,.int .i64 a,.int .i64 b] 139)=wb):=hwb
 have hlt:=h.box.lt.1
 have hb:=h.later hbb
 clear hwb
 go_enter Tryz.func155,Tryz.ntmps155
 have HX:=send_any w0 wb base mb nw C M cl code hC a hb hh h64 ht hon
 generalize sendF cl M (topM M) (topM (popM M))=sf at HX ⊢
 go_wp2_with ((go_at_call 178;rw [HB.out];(with_reducible refine HX.mono ?_);rintro e w1 ⟨rfl,r1⟩))
 go_ret
 exact ⟨rfl,r1⟩
def isPairB (o:Int):Bool:=(decide (13≤o) && decide (o≤22))||(decide (26≤o) && decide (o≤33))
theorem isPair_of {o:Int} (h:isPairB o=true):isPair o:=by
 unfold isPairB at h
 simp at h
 unfold isPair
 omega
def idxF (i b:Int):Int:=if i<0∨b≤i then 203 else 0
def doF (cl:Cl) (M:Mc) (o a b:Int):Int:=
 if o=40 then 209
 else if o=5∨o=38 then idxF (topM M) b
 else if o=6 then idxF (topM (popM M)) b
 else if o=37 then (if topM M<1 then 208 else 0)
 else if o=41 then (if topM M<1 then 208 else if waitV M.dice (topM M)=none then 206 else 0)
 else if o=39 then sendF cl M (topM M) (topM (popM M))
 else if isPairB o then (pairV o (topM (popM M)) (topM M)).2
 else 0
def waitM (M:Mc):Option (Int×Int)→Mc
 |some r=> { pushM (popM M) r.1 with dice:=r.2 }
 |none=>M
def doM (cl:Cl) (M:Mc) (o a b:Int):Mc:=
 if o=1 then pushM M a
 else if o=2 then popM M
 else if o=3 then pushM M (M.wd a.toNat)
 else if o=4 then { popM M with wd:=updI M.wd a.toNat (topM M) }
 else if o=5 then pushM (popM M) (M.wd (a.toNat+(topM M).toNat))
 else if o=6 then { popM (popM M) with wd:=updI M.wd (a.toNat+(topM (popM M)).toNat) (topM M) }
 else if o=7 then pushM M (M.lo a.toNat)
 else if o=8 then { popM M with lo:=updI M.lo a.toNat (topM M) }
 else if o=9 then pushM M cl.data
 else if o=10 then pushM M (wrap64 cl.time)
 else if o=11 then pushM M cl.dst
 else if o=12 then pushM M cl.src
 else if o=38 then pushM (popM M) (a+topM M)
 else if o=37 then { pushM (popM M) (rollV M.dice (topM M)).1 with dice:=(rollV M.dice (topM M)).2 }
 else if o=41 then waitM M (waitV M.dice (topM M))
 else if o=39 then sentM cl a M
 else if o=23∨o=24∨o=25∨o=34 then pushM (popM M) (singleV o (topM M))
 else if isPairB o then pushM (popM (popM M)) (pairV o (topM (popM M)) (topM M)).1
 else M
end Go.Proofs.YtecgecpgmpmkoaaGreat
namespace Go.Proofs.YtecgecpgmpmkoaaGreat
open Go.ChangeShapes Go.WideShapes Go.ChangeAt Go.RowKit
set_option linter.unusedVariables false
def In64 (x:Int):Prop:= -9223372036854775808≤x∧x≤9223372036854775807
theorem in64_wrap (n:Int):In64 (wrap64 n):=by unfold In64 wrap64;omega
theorem in64_kw (n:Int):In64 (IntKind.i64.wrap n):=by rw [IntKind.wrap_i64];unfold In64;omega
theorem in64_bits (op:BinOp) (a b:Int):In64 (bits op IntKind.i64 a b):=by unfold bits;exact in64_kw _
theorem in64_tmod {a b:Int} (h:In64 a):In64 (a.tmod b):=by
 unfold In64 at*
 rcases Int.lt_or_le a 0 with h0|h0
 ·have e:a.tmod b= -((-a).tmod b):=by rw [Int.neg_tmod,Int.neg_neg]
  have h1:=Int.tmod_nonneg (a:= -a) b (by omega)
  have h2:(-a).tmod b≤ -a:=by
   obtain ⟨n,hn⟩:=Int.eq_ofNat_of_zero_le (show 0≤ -a by omega)
   rw [hn]
   rcases Int.lt_or_le b 0 with hb|hb
   ·obtain ⟨m,hm⟩:=Int.eq_ofNat_of_zero_le (show 0≤ -b by omega)
    have e2:b= -(m:Int):=by omega
    rw [e2,Int.tmod_neg]
    have:=Nat.mod_le n m
    rw [←Int.ofNat_tmod]
    omega
   ·obtain ⟨m,rfl⟩:=Int.eq_ofNat_of_zero_le hb
    have:=Nat.mod_le n m
    rw [←Int.ofNat_tmod]
    omega
  omega
 ·have h1:=Int.tmod_nonneg (a:=a) b h0
  have h2:a.tmod b≤a:=by
   obtain ⟨n,rfl⟩:=Int.eq_ofNat_of_zero_le h0
   rcases Int.lt_or_le b 0 with hb|hb
   ·obtain ⟨m,hm⟩:=Int.eq_ofNat_of_zero_le (show 0≤ -b by omega)
    have e2:b= -(m:Int):=by omega
    rw [e2,Int.tmod_neg]
    have:=Nat.mod_le n m
    rw [←Int.ofNat_tmod]
    omega
   ·obtain ⟨m,rfl⟩:=Int.eq_ofNat_of_zero_le hb
    have:=Nat.mod_le n m
    rw [←Int.ofNat_tmod]
    omega
  omega
theorem in64_shr {a:Int} (h:In64 a) (k:Nat):In64 (a / 2 ^ k):=by
 have hp:(0:Int)<2 ^ k:=Int.pow_pos (by omega)
 unfold In64 at*
 refine ⟨(Int.le_ediv_iff_mul_le hp).2 ?_,?_⟩
 ·have:(1:Int)≤2 ^ k:=hp
  have:=Int.mul_le_mul_of_nonpos_left (show (-9223372036854775808:Int)≤0 by omega) this
  omega
 ·rcases Int.lt_or_le a 0 with h0|h0
  ·have:=Int.ediv_neg_of_neg_of_pos h0 hp
   omega
  ·have:=Int.ediv_le_self (a:=a) (2 ^ k) h0
   omega
theorem in64_pair (o a b:Int) (h:isPair o) (ha:In64 a) (hb:In64 b):In64 (pairV o a b).1:=by
 have z:In64 0:=⟨by omega,by omega⟩
 have one:In64 1:=⟨by omega,by omega⟩
 rcases h with rfl|rfl|rfl|rfl|rfl|rfl|rfl|rfl|rfl|rfl|rfl|rfl|rfl|rfl|rfl|rfl|rfl|rfl
 ·show In64 (wrap64 (a+b))
  exact in64_wrap _
 ·show In64 (wrap64 (a-b))
  exact in64_wrap _
 ·show In64 (wrap64 (a*b))
  exact in64_wrap _
 ·show In64 ((if b=0 then (0,201) else (wrap64 (a.tdiv b),0)):Int×Int).1
  by_cases c:b=0
  ·rw [if_pos c];exact z
  ·rw [if_neg c];exact in64_wrap _
 ·show In64 ((if b=0 then (0,201) else (a.tmod b,0)):Int×Int).1
  by_cases c:b=0
  ·rw [if_pos c];exact z
  ·rw [if_neg c];exact in64_tmod ha
 ·show In64 (bits BinOp.and IntKind.i64 a b)
  exact in64_bits _ _ _
 ·show In64 (bits BinOp.or IntKind.i64 a b)
  exact in64_bits _ _ _
 ·show In64 (bits BinOp.xor IntKind.i64 a b)
  exact in64_bits _ _ _
 ·show In64 ((if b<0 then (0,202) else (IntKind.i64.wrap (a*2 ^ min b.toNat 64),0)):Int×Int).1
  by_cases c:b<0
  ·rw [if_pos c];exact z
  ·rw [if_neg c];exact in64_kw _
 ·show In64 ((if b<0 then (0,202) else (a / 2 ^ min b.toNat 64,0)):Int×Int).1
  by_cases c:b<0
  ·rw [if_pos c];exact z
  ·rw [if_neg c];exact in64_shr ha _
 ·show In64 (if a=b then 1 else 0)
  by_cases c:a=b
  ·rw [if_pos c];exact one
  ·rw [if_neg c];exact z
 ·show In64 (if a=b then 0 else 1)
  by_cases c:a=b
  ·rw [if_pos c];exact z
  ·rw [if_neg c];exact one
 ·show In64 (if a<b then 1 else 0)
  by_cases c:a<b
  ·rw [if_pos c];exact one
  ·rw [if_neg c];exact z
 ·show In64 (if a≤b then 1 else 0)
  by_cases c:a≤b
  ·rw [if_pos c];exact one
  ·rw [if_neg c];exact z
 ·show In64 (if b<a then 1 else 0)
  by_cases c:b<a
  ·rw [if_pos c];exact one
  ·rw [if_neg c];exact z
 ·show In64 (if b≤a then 1 else 0)
  by_cases c:b≤a
  ·rw [if_pos c];exact one
  ·rw [if_neg c];exact z
 ·show In64 (if b<a then b else a)
  by_cases c:b<a
  ·rw [if_pos c];exact hb
  ·rw [if_neg c];exact ha
 ·show In64 (if a<b then b else a)
  by_cases c:a<b
  ·rw [if_pos c];exact hb
  ·rw [if_neg c];exact ha
theorem in64_single (o a:Int):In64 (singleV o a):=by
 have z:In64 0:=⟨by omega,by omega⟩
 have one:In64 1:=⟨by omega,by omega⟩
 unfold singleV
 repeat' split
 all_goals first|exact z|exact one|exact in64_wrap _|exact in64_bits _ _ _
structure OkM (M:Mc):Prop where
 st: ∀j,In64 (M.st j)
 lo: ∀j,In64 (M.lo j)
 wd: ∀j,In64 (M.wd j)
 dice:u64ok M.dice
 sent:u64ok M.sent
 on:M.on≤16
structure OkC (cl:Cl):Prop where
 time:u64ok cl.time
 src:In64 cl.src
 dst:In64 cl.dst
 data:In64 cl.data
theorem in64_upd {f:Nat→Int} (h: ∀j,In64 (f j)) (k:Nat) {x:Int} (hx:In64 x): ∀j,In64 (updI f k x j):=fun j=>by
 unfold updI
 split
 ·exact hx
 ·exact h j
theorem OkM.push {M:Mc} (h:OkM M) {x:Int} (hx:In64 x):OkM (pushM M x):=⟨in64_upd h.st _ hx,h.lo,h.wd,h.dice,h.sent,h.on⟩
theorem OkM.pop {M:Mc} (h:OkM M):OkM (popM M):=⟨h.st,h.lo,h.wd,h.dice,h.sent,h.on⟩
theorem OkM.top {M:Mc} (h:OkM M):In64 (topM M):=h.st _
theorem sendF_on {cl:Cl} {M:Mc} {D T:Int} (h:sendF cl M D T=0):M.on≠16:=fun hc=>by
 unfold sendF at h
 by_cases a1:T<0∨cl.parts≤T
 ·rw [if_pos a1] at h;cases h
 ·rw [if_neg a1] at h
  by_cases a2:D<0∨u64of D<cl.look
  ·rw [if_pos a2] at h;cases h
  ·rw [if_neg a2,if_pos hc] at h;cases h
theorem doM_ok (cl:Cl) (hc:OkC cl) (M:Mc) (h:OkM M) (o a b:Int) (ha:In64 a) (hf:doF cl M o a b=0) (hn:o=38→0≤a∧a+b≤64):OkM (doM cl M o a b):=by
 unfold doM
 by_cases h1:o=1
 ·rw [if_pos h1];exact h.push ha
 rw [if_neg h1]
 by_cases h2:o=2
 ·rw [if_pos h2];exact h.pop
 rw [if_neg h2]
 by_cases h3:o=3
 ·rw [if_pos h3];exact h.push (h.wd _)
 rw [if_neg h3]
 by_cases h4:o=4
 ·rw [if_pos h4];exact ⟨h.st,h.lo,in64_upd h.wd _ h.top,h.dice,h.sent,h.on⟩
 rw [if_neg h4]
 by_cases h5:o=5
 ·rw [if_pos h5];exact h.pop.push (h.wd _)
 rw [if_neg h5]
 by_cases h6:o=6
 ·rw [if_pos h6];exact ⟨h.st,h.lo,in64_upd h.wd _ h.top,h.dice,h.sent,h.on⟩
 rw [if_neg h6]
 by_cases h7:o=7
 ·rw [if_pos h7];exact h.push (h.lo _)
 rw [if_neg h7]
 by_cases h8:o=8
 ·rw [if_pos h8];exact ⟨h.st,in64_upd h.lo _ h.top,h.wd,h.dice,h.sent,h.on⟩
 rw [if_neg h8]
 by_cases h9:o=9
 ·rw [if_pos h9];exact h.push hc.data
 rw [if_neg h9]
 by_cases h10:o=10
 ·rw [if_pos h10];exact h.push (in64_wrap _)
 rw [if_neg h10]
 by_cases h11:o=11
 ·rw [if_pos h11];exact h.push hc.dst
 rw [if_neg h11]
 by_cases h12:o=12
 ·rw [if_pos h12];exact h.push hc.src
 rw [if_neg h12]
 by_cases h38:o=38
 ·rw [if_pos h38]
  have hx:=hn h38
  have hy: ¬(topM M<0∨b≤topM M):=fun hc'=>by
   unfold doF at hf
   rw [if_neg (by omega),if_pos (.inr h38)] at hf
   unfold idxF at hf
   rw [if_pos hc'] at hf
   cases hf
  exact h.pop.push ⟨by omega,by omega⟩
 rw [if_neg h38]
 by_cases h37:o=37
 ·rw [if_pos h37]
  have hr: ¬topM M<1:=fun hc'=>by
   unfold doF at hf
   rw [if_neg (by omega),if_neg (by omega),if_neg (by omega),if_pos h37,if_pos hc'] at hf
   cases hf
  have hb:=rollV_b M.dice (topM M) ⟨by omega,h.top.2⟩
  have hp:=h.pop.push (x:=(rollV M.dice (topM M)).1) ⟨by omega,hb.1.2⟩
  exact ⟨hp.st,hp.lo,hp.wd,hb.2,hp.sent,hp.on⟩
 rw [if_neg h37]
 by_cases h41:o=41
 ·rw [if_pos h41]
  generalize hwv:waitV M.dice (topM M)=wv
  rcases wv with _|r
  ·exact h
  ·have hb:=waitV_b hwv
   have hp:=h.pop.push (x:=r.1) ⟨by omega,hb.1.2⟩
   exact ⟨hp.st,hp.lo,hp.wd,hb.2,hp.sent,hp.on⟩
 rw [if_neg h41]
 by_cases h39:o=39
 ·rw [if_pos h39]
  have hz:sendF cl M (topM M) (topM (popM M))=0:=by
   unfold doF at hf
   rwa [if_neg (by omega),if_neg (by omega),if_neg (by omega),if_neg (by omega),if_neg (by omega),if_pos h39] at hf
  have:=sendF_on hz
  exact ⟨h.st,h.lo,h.wd,h.dice,u64of_b _,by have:=h.on;show M.on+1≤16;omega⟩
 rw [if_neg h39]
 by_cases hs:o=23∨o=24∨o=25∨o=34
 ·rw [if_pos hs];exact h.pop.push (in64_single _ _)
 rw [if_neg hs]
 by_cases hp:isPairB o=true
 ·rw [if_pos hp];exact h.pop.pop.push (in64_pair _ _ _ (isPair_of hp) h.pop.top h.top)
 rw [if_neg hp]
 exact h
end Go.Proofs.YtecgecpgmpmkoaaGreat
