import Derived.Test.YtecgecpgmpmkoaaGreatHRN5
import Derived.Test.YtecgecpgmpmkoaaGreatHRN7
import Derived.Test.YtecgecpgmpmkoaaGreatHOP5
namespace Go.Proofs.YtecgecpgmpmkoaaGreat
open Go.ChangeShapes Go.WideShapes Go.ChangeAt Go.RowKit
set_option linter.unusedVariables false
set_option linter.unusedSimpArgs false
structure Rv where
 pq:Option Addr
 pc:Nat
 U:Nat→PgV
 sv:Value
 C:Nat→Sa
 qv:Value
 n:Nat
 X:Nat→Se
 tv:Value
def Mu (sb:Nat) (R:Rv) (k:Nat):Prop:=k=sb∨some k=R.sv.ownBlock∨some k=R.qv.ownBlock∨some k=R.tv.ownBlock
structure SimR (W:World) (b0 sb:Nat) (p:Pl) (A:Ab) (R:Rv):Prop where
 box:W.heap[sb]? =some (.cells #[.slice R.pq p.nq R.pc,.int .u64 p.lk,.int .u64 p.en,.int .i64 p.bu,.int .i64 p.fu,R.sv,R.qv,R.tv,.int .i64 A.f] 125 (0,0))
 b:b0≤sb
 ps:PsAt W R.pq p.nq (fun j=>p.P (p.pr j).toNat) R.U
 st:Own W b0 62 3 R.sv p.nq (saF R.C)
 wd: ∀j,j<p.nq→((R.C j).n=p.nw j∧(R.C j).d=A.d j∧(R.C j).s=A.s j)∧KAt W (R.C j).p (p.nw j) (A.K j)∧((R.C j).p=none→p.nw j=0∧True)
 q:Own W b0 54 6 R.qv R.n (seF R.X)
 tr:Own W b0 54 6 R.tv A.m (seF A.Z)
 hp:Hp R.n R.X
 inj:Inj R.n R.X
 set: ∀x,A.M x↔InX R.n R.X x
 nb:R.n+16*(4096-A.m)≤2932031007402
 n1:R.sv.ownBlock≠some sb
 n2:R.qv.ownBlock≠some sb
 n3:R.tv.ownBlock≠some sb
 n4: ∀k,R.sv.ownBlock=some k→R.qv.ownBlock≠some k∧R.tv.ownBlock≠some k
 n5: ∀k,R.qv.ownBlock=some k→R.tv.ownBlock≠some k
 r0: ∀g o,R.pq=some ⟨g,o,none⟩→0<p.nq→ ¬Mu sb R g
 r1: ∀j,j<p.nq→(∀g o,(R.U j).cp=some ⟨g,o,none⟩→0<(p.P (p.pr j).toNat).n→ ¬Mu sb R g)∧(∀g o,(R.U j).ep=some ⟨g,o,none⟩→0<(p.P (p.pr j).toNat).m→ ¬Mu sb R g)∧ ∀g o,(R.C j).p=some ⟨g,o,none⟩→0<p.nw j→ ¬Mu sb R g
theorem PsAt.kb0 {S:Nat→Prop} {W W':World} {p:Option Addr} {n:Nat} {P:Nat→Pg} {V:Nat→PgV} (h:PsAt W p n P V) (hk:Kb S W W') (h0: ∀g o,p=some ⟨g,o,none⟩→0<n→ ¬S g) (h1: ∀j,j<n→(∀g o,(V j).cp=some ⟨g,o,none⟩→0<(P j).n→ ¬S g)∧ ∀g o,(V j).ep=some ⟨g,o,none⟩→0<(P j).m→ ¬S g):PsAt W' p n P V:=by
 by_cases hn:n=0
 ·exact .inl hn
 rcases h with h|⟨g,o,rfl,hl,hc,hp⟩
 ·exact .inl h
 ·have hs:=h0 g o rfl (by omega)
  exact .inr ⟨g,o,rfl,Nat.lt_of_lt_of_le hl hk.size,fun j hj=>⟨(cell_kb (a:=⟨g,o+j*4,none⟩) hk hl hs).trans (hc j hj).1,(cell_kb (a:=⟨g,o+j*4+1,none⟩) hk hl hs).trans (hc j hj).2.1,(cell_kb (a:=⟨g,o+j*4+2,none⟩) hk hl hs).trans (hc j hj).2.2.1,(cell_kb (a:=⟨g,o+j*4+3,none⟩) hk hl hs).trans (hc j hj).2.2.2⟩,fun j hj=>⟨(hp j hj).1.kb0 hk (h1 j hj).1,(hp j hj).2.kb0 hk (h1 j hj).2⟩⟩
theorem SimR.below {W W':World} {b0 sb:Nat} {p:Pl} {A:Ab} {R:Rv} (h:SimR W b0 sb p A R) (hb:Below W.heap.size W W'):SimR W' b0 sb p A R:=
 ⟨(hb.block _ (lt_of_block h.box)).trans h.box,h.b,h.ps.below hb,h.st.later hb,fun j hj=>⟨(h.wd j hj).1,(h.wd j hj).2.1.below hb,(h.wd j hj).2.2⟩,h.q.later hb,h.tr.later hb,h.hp,h.inj,h.set,h.nb,h.n1,h.n2,h.n3,h.n4,h.n5,h.r0,h.r1⟩
theorem SimR.lt {W:World} {b0 sb:Nat} {p:Pl} {A:Ab} {R:Rv} (h:SimR W b0 sb p A R):sb<W.heap.size:=lt_of_block h.box
theorem SimR.mu {W:World} {b0 sb:Nat} {p:Pl} {A:Ab} {R:Rv} (h:SimR W b0 sb p A R): ∀k,Mu sb R k→b0≤k∧k<W.heap.size:=fun k hk=>by
 rcases hk with rfl|hk|hk|hk
 ·exact ⟨h.b,h.lt⟩
 ·exact Own.lt h.st k hk.symm
 ·exact Own.lt h.q k hk.symm
 ·exact Own.lt h.tr k hk.symm
theorem KAt.lt0 {W:World} {p:Option Addr} {n:Nat} {K:Nat→Int} (h:KAt W p n K) (hn:0<n): ∀g o,p=some ⟨g,o,none⟩→g<W.heap.size:=fun g o e=>by
 rcases h with h|⟨g',o',e',hl,_⟩
 ·omega
 ·rw [e] at e'
  injection e' with e'
  injection e' with e1
  omega
theorem IAt.lt0 {W:World} {p:Option Addr} {n:Nat} {op a b:Nat→Int} (h:IAt W p n op a b) (hn:0<n): ∀g o,p=some ⟨g,o,none⟩→g<W.heap.size:=fun g o e=>by
 rcases h with h|⟨g',o',e',hl,_⟩
 ·omega
 ·rw [e] at e'
  injection e' with e'
  injection e' with e1
  omega
theorem PsAt.lt0 {W:World} {p:Option Addr} {n:Nat} {P:Nat→Pg} {V:Nat→PgV} (h:PsAt W p n P V) (hn:0<n):(∀g o,p=some ⟨g,o,none⟩→g<W.heap.size)∧ ∀j,j<n→PAt W (P j) (V j):=by
 rcases h with h|⟨g',o',e',hl,_,hp⟩
 ·omega
 ·refine ⟨fun g o e=> ?_,hp⟩
  rw [e] at e'
  injection e' with e'
  injection e' with e1
  omega
def Av (p:Pl) (R:Rv) (sb r:Nat):Prop:= ¬Mu sb R r∧(∀g o,R.pq=some ⟨g,o,none⟩→0<p.nq→g≠r)∧ ∀j,j<p.nq→(∀g o,(R.U j).cp=some ⟨g,o,none⟩→0<(p.P (p.pr j).toNat).n→g≠r)∧(∀g o,(R.U j).ep=some ⟨g,o,none⟩→0<(p.P (p.pr j).toNat).m→g≠r)∧ ∀g o,(R.C j).p=some ⟨g,o,none⟩→0<p.nw j→g≠r
theorem SimR.skip {W W':World} {b0 sb r:Nat} {p:Pl} {A:Ab} {R:Rv} (h:SimR W b0 sb p A R) (hk:Kq (fun k=>k=r) W W') (ha:Av p R sb r):SimR W' b0 sb p A R:=by
 have n0:sb≠r:=fun e=>ha.1 (.inl e.symm)
 refine ⟨(hk.block sb h.lt n0).trans h.box,h.b,h.ps.kb0 hk.kb (fun g o e hn e9=>ha.2.1 g o e hn e9) (fun j hj=>⟨fun g o e hn e9=>(ha.2.2 j hj).1 g o e hn e9,fun g o e hn e9=>(ha.2.2 j hj).2.1 g o e hn e9⟩),h.st.far fun k e=>hk.block k (Own.lt h.st k e).2 fun e9=>ha.1 (.inr (.inl (by rw [←show k=r from e9];exact e.symm))),fun j hj=>⟨(h.wd j hj).1,(h.wd j hj).2.1.kb0 hk.kb (fun g o e hn e9=>(ha.2.2 j hj).2.2 g o e hn e9),(h.wd j hj).2.2⟩,h.q.far fun k e=>hk.block k (Own.lt h.q k e).2 fun e9=>ha.1 (.inr (.inr (.inl (by rw [←show k=r from e9];exact e.symm)))),h.tr.far fun k e=>hk.block k (Own.lt h.tr k e).2 fun e9=>ha.1 (.inr (.inr (.inr (by rw [←show k=r from e9];exact e.symm)))),h.hp,h.inj,h.set,h.nb,h.n1,h.n2,h.n3,h.n4,h.n5,h.r0,h.r1⟩
theorem SimR.av {W:World} {b0 sb r:Nat} {p:Pl} {A:Ab} {R:Rv} (h:SimR W b0 sb p A R) (hr:W.heap.size≤r):Av p R sb r:=by
 refine ⟨fun hM=>by have:=(h.mu r hM).2;omega,fun g o e hn e9=>by have:=(h.ps.lt0 hn).1 g o e;omega,fun j hj=> ?_⟩
 have hp:=(h.ps.lt0 (show 0<p.nq by omega)).2 j hj
 exact ⟨fun g o e hn e9=>by have:=hp.1.lt0 hn g o e;omega,fun g o e hn e9=>by have:=hp.2.lt0 hn g o e;omega,fun g o e hn e9=>by have:=(h.wd j hj).2.1.lt0 hn g o e;omega⟩
theorem SimR.qrow {W:World} {b0 sb:Nat} {p:Pl} {A:Ab} {R:Rv} (h:SimR W b0 sb p A R) (hn:0<R.n): ∃g c,R.qv=.slice (some ⟨g,0,none⟩) R.n c∧SRow W b0 g R.n c R.X:=by
 rcases h.q.form with ⟨h1,h2⟩|⟨g,c,h1,h2,h3⟩
 ·omega
 ·have hq:=h.q
  rw [h1] at hq
  exact ⟨g,c,h1,hq⟩
theorem field_key (a b c d e f:Int) (W:World):(Instr.field 54 (.agg #[.int .u64 a,.int .i64 b,.int .u64 c,.int .i64 d,.int .i64 e,.int .i64 f]) 0).run Tryz.prog W=.ok (.agg #[.int .u64 a,.int .i64 b,.int .u64 c]) W:=by kernel_rfl
theorem field_time (a b c:Int) (W:World):(Instr.field 33 (.agg #[.int .u64 a,.int .i64 b,.int .u64 c]) 0).run Tryz.prog W=.ok (.int .u64 a) W:=by kernel_rfl
set_option maxRecDepth 100000 in
set_option maxHeartbeats 4000000 in
theorem idle_any (W:World) (b0 sb:Nat) (p:Pl) (A:Ab) (R:Rv) (h:SimR W b0 sb p A R):Calls Tryz.prog 62 #[.pointer (some ⟨sb,0,none⟩)] W fun e W'=> ∃b,e=.returned (.bool b)∧(b=true↔Idle p A)∧Below W.heap.size W W':=by
 have hii:=idle_iff (p:=p) h.hp h.set
 by_cases hn:R.n=0
 ·obtain ⟨qp,qc,hqv⟩:=own_slice h.q
  have k6:W.cell? ⟨sb,6,none⟩=some (.slice qp 0 qc):=by
   have:=cell_in h.box (o:=6) (v:=R.qv) rfl
   rw [this,hqv,hn]
  have HI:Hid (Idle p A):=hii.2 (.inl hn)
  clear h hii hn hqv
  go_enter Tryz.func62,Tryz.ntmps62
  go_upto_region 1 with fail
  go_quiet (fail)
  go_wp2_with fail
  go_ret
  exact ⟨true,rfl,⟨fun _=>HI.out,fun _=>rfl⟩,below_drewNq _ _ _⟩
 ·obtain ⟨g,c,hqv,hrow⟩:=h.qrow (by omega)
  have hbd:Below W.heap.size W W.drew:=(Below.refl _ W).drew
  have HL:=least_any g R.n c b0 R.X (by omega) W.drew (SRow.later hrow hbd)
  have KK: ∀w',Below W.heap.size W w'→Hid (w'.cell? ⟨sb,6,none⟩=some (.slice (some ⟨g,0,none⟩) R.n c)∧w'.cell? ⟨sb,2,none⟩=some (.int .u64 p.en)):=fun w' hb=>by
   have hbx:=(hb.block _ h.lt).trans h.box
   exact ⟨by have:=cell_in hbx (o:=6) (v:=R.qv) rfl;rw [this,hqv],cell_in hbx rfl⟩
  have KP0:=(KK W.drew hbd).out
  have g0:((R.n:Int)==0)=false:=by simp;omega
  have fe1:=field_key (R.X 0).t (R.X 0).s (R.X 0).q (R.X 0).d (R.X 0).k (R.X 0).v
  have fe2:=field_time (R.X 0).t (R.X 0).s (R.X 0).q
  by_cases hen:p.en≤(R.X 0).t
  ·have d0:decide (p.en≤(R.X 0).t)=true:=by simp;omega
   have HI:Hid (Idle p A):=hii.2 (.inr hen)
   clear h hii hqv hrow hen
   go_enter Tryz.func62,Tryz.ntmps62
   go_upto_region 1 with fail
   go_region_held3 (fun w'=>w'.cell? ⟨sb,6,none⟩=some (.slice (some ⟨g,0,none⟩) R.n c)∧w'.cell? ⟨sb,2,none⟩=some (.int .u64 p.en)) (first|with_reducible exact KP0|with_reducible exact KP1|go_keep) ((go_at_call 64;(with_reducible refine HL.mono ?_);rintro e w1 ⟨rfl,hb1⟩;have hw1:Below W.heap.size W w1:=hbd.trans (hb1.mono hbd.size);have KP1:=(KK w1 hw1).out))
   all_goals (
    go_wp2_with fail
    go_ret
    exact ⟨true,rfl,⟨fun _=>HI.out,fun _=>rfl⟩,hw1⟩)
  ·have d0:decide (p.en≤(R.X 0).t)=false:=by simp;omega
   have HI:Hid (¬Idle p A):=fun h9=>by rcases hii.1 h9 with h8|h8<;>omega
   clear h hii hqv hrow hen
   go_enter Tryz.func62,Tryz.ntmps62
   go_upto_region 1 with fail
   go_region_held3 (fun w'=>w'.cell? ⟨sb,6,none⟩=some (.slice (some ⟨g,0,none⟩) R.n c)∧w'.cell? ⟨sb,2,none⟩=some (.int .u64 p.en)) (first|with_reducible exact KP0|with_reducible exact KP1|go_keep) ((go_at_call 64;(with_reducible refine HL.mono ?_);rintro e w1 ⟨rfl,hb1⟩;have hw1:Below W.heap.size W w1:=hbd.trans (hb1.mono hbd.size);have KP1:=(KK w1 hw1).out))
   all_goals (
    go_wp2_with fail
    go_ret
    exact ⟨false,rfl,⟨fun e=>(by cases e),fun h9=>absurd h9 HI.out⟩,hw1⟩)
set_option maxRecDepth 100000 in
set_option maxHeartbeats 4000000 in
theorem spent_any (W:World) (b0 sb:Nat) (p:Pl) (A:Ab) (R:Rv) (h:SimR W b0 sb p A R):Calls Tryz.prog 63 #[.pointer (some ⟨sb,0,none⟩)] W fun e W'=>e=.returned (.bool (decide (p.bu≤(A.m:Int))))∧Below W.heap.size W W':=by
 obtain ⟨qp,qc,hqv⟩:=own_slice h.tr
 have k7:W.cell? ⟨sb,7,none⟩=some (.slice qp A.m qc):=by
  have:=cell_in h.box (o:=7) (v:=R.tv) rfl
  rw [this,hqv]
 have k3:W.cell? ⟨sb,3,none⟩=some (.int .i64 p.bu):=cell_in h.box rfl
 clear h hqv
 go_enter Tryz.func63,Tryz.ntmps63
 go_upto_region 1 with fail
 go_quiet (fail)
 go_wp2_with fail
 go_ret
 exact ⟨rfl,below_drewNq _ _ _⟩
end Go.Proofs.YtecgecpgmpmkoaaGreat
namespace Go.Proofs.YtecgecpgmpmkoaaGreat
open Go.ChangeShapes Go.WideShapes Go.ChangeAt Go.RowKit
set_option linter.unusedVariables false
set_option linter.unusedSimpArgs false
theorem two_new (w:World) (c d:Array Value) (t u:TypeId): ∃wb,(w.alloc (.cells c t)).alloc (.cells d u)=wb∧Below w.heap.size w wb∧wb.heap[w.heap.size]? =some (.cells c t (0,0))∧wb.heap[w.heap.size+1]? =some (.cells d u (0,0))∧wb.heap.size=w.heap.size+2:=by
 refine ⟨_,rfl,((Below.refl _ w).alloc (Nat.le_refl _) _).alloc (by simp) _,?_,?_,by simp⟩
 ·rw [Below.heap_alloc _ _ _ (by simp)]
  exact World.alloc_heap_new w _
 ·have:=World.alloc_heap_new (w.alloc (.cells c t)) (.cells d u)
  rwa [World.size_alloc] at this
theorem Kq.row {S:Nat→Prop} (W:World) (g:Nat) (cells:Array Value) (h:S g):Kq S W (W.setRow g cells):=⟨rfl,rfl,rfl,by simp [World.setRow],fun k _ hs=>setRow_far _ _ _ _ fun e=>hs (by rw [e];exact h)⟩
set_option maxRecDepth 100000 in
set_option maxHeartbeats 4000000 in
theorem call_any (W:World) (b0 sb:Nat) (p:Pl) (A:Ab) (R:Rv) (h:SimR W b0 sb p A R) (e:Se) (dn:Nat) (hdn:e.d=(dn:Int)) (hlt:dn<p.nq):Calls Tryz.prog 66 #[.pointer (some ⟨sb,0,none⟩),.agg #[.int .u64 e.t,.int .i64 e.s,.int .u64 e.q,.int .i64 e.d,.int .i64 e.k,.int .i64 e.v]] W fun r W'=>r=.returned (.agg #[.int .u64 e.t,.int .i64 e.s,.int .u64 e.q,.int .i64 e.d,.int .i64 e.k,.int .i64 e.v,.slice (R.C dn).p (R.C dn).n (R.C dn).c,.int .u64 (R.C dn).d,.int .u64 (R.C dn).s,.int .u64 p.lk,.int .i64 (p.nq:Int),.int .i64 p.fu])∧Below W.heap.size W W':=by
 obtain ⟨gs,cs,hsv,hst⟩: ∃gs cs,R.sv=.slice (some ⟨gs,0,none⟩) p.nq cs∧ARow W b0 gs p.nq cs R.C:=by
  rcases h.st.form with ⟨h1,h2⟩|⟨g,c,h1,h2,h3⟩
  ·omega
  ·have hq:=h.st
   rw [h1] at hq
   exact ⟨g,c,h1,hq⟩
 obtain ⟨wb,hwb,hb0,hbx1,hbx2,hsz⟩:=two_new W #[.int .u64 e.t,.int .i64 e.s,.int .u64 e.q,.int .i64 e.d,.int .i64 e.k,.int .i64 e.v] #[.int .u64 0,.int .i64 0,.int .u64 0,.int .i64 0,.int .i64 0,.int .i64 0,.slice none 0 0,.int .u64 0,.int .u64 0,.int .u64 0,.int .i64 0,.int .i64 0] 54 131
 have HW:Hid ((W.alloc (.cells #[.int .u64 e.t,.int .i64 e.s,.int .u64 e.q,.int .i64 e.d,.int .i64 e.k,.int .i64 e.v] 54)).alloc (.cells #[.int .u64 0,.int .i64 0,.int .u64 0,.int .i64 0,.int .i64 0,.int .i64 0,.slice none 0 0,.int .u64 0,.int .u64 0,.int .u64 0,.int .i64 0,.int .i64 0] 131)=wb):=hwb
 have hsl:=h.lt
 have hgl:=hst.lt.2
 have KK: ∀w',Kq (fun k=>k=W.heap.size+1) wb w'→Hid ((w'.cell? ⟨sb,0,none⟩=some (.slice R.pq p.nq R.pc)∧w'.cell? ⟨sb,1,none⟩=some (.int .u64 p.lk)∧w'.cell? ⟨sb,4,none⟩=some (.int .i64 p.fu)∧w'.cell? ⟨sb,5,none⟩=some (.slice (some ⟨gs,0,none⟩) p.nq cs))∧(w'.cell? ⟨W.heap.size,0,none⟩=some (.int .u64 e.t)∧w'.cell? ⟨W.heap.size,1,none⟩=some (.int .i64 e.s)∧w'.cell? ⟨W.heap.size,2,none⟩=some (.int .u64 e.q)∧w'.cell? ⟨W.heap.size,3,none⟩=some (.int .i64 e.d)∧w'.cell? ⟨W.heap.size,4,none⟩=some (.int .i64 e.k)∧w'.cell? ⟨W.heap.size,5,none⟩=some (.int .i64 e.v))∧w'.cell? ⟨gs,dn*3,none⟩=some (.slice (R.C dn).p (R.C dn).n (R.C dn).c)∧w'.cell? ⟨gs,dn*3+1,none⟩=some (.int .u64 (R.C dn).d)∧w'.cell? ⟨gs,dn*3+2,none⟩=some (.int .u64 (R.C dn).s)):=fun w' hk=>by
  have hs1:=(hk.block sb (by omega) (by omega)).trans ((hb0.block _ hsl).trans h.box)
  have he1:=(hk.block W.heap.size (by omega) (by omega)).trans hbx1
  have hst1:ARow w' b0 gs p.nq cs R.C:=Own.far hst fun k hk9=>by
   have h8:some gs=some k:=hk9
   injection h8 with h8
   exact (hk.block k (by omega) (by omega)).trans (hb0.block k (by omega))
  have k5:=cell_in hs1 (o:=5) (v:=R.sv) rfl
  rw [hsv] at k5
  exact ⟨⟨cell_in hs1 rfl,cell_in hs1 rfl,cell_in hs1 rfl,k5⟩,⟨cell_in he1 rfl,cell_in he1 rfl,cell_in he1 rfl,cell_in he1 rfl,cell_in he1 rfl,cell_in he1 rfl⟩,hst1.cells hlt⟩
 have hkd:Kq (fun k=>k=W.heap.size+1) wb wb.drew:=Kq.below (drewS wb)
 have KP0:=(KK wb.drew hkd).out
 have j0:(0:Int)≤(dn:Int):=by omega
 have j1:(dn:Int)<(p.nq:Int):=by omega
 have HR:Hid (wb.heap[W.heap.size+1]? =some (.cells #[.int .u64 0,.int .i64 0,.int .u64 0,.int .i64 0,.int .i64 0,.int .i64 0,.slice none 0 0,.int .u64 0,.int .u64 0,.int .u64 0,.int .i64 0,.int .i64 0] 131 (0,0))∧Below W.heap.size W wb):=⟨hbx2,hb0⟩
 have z0:wb.drew.cell? ⟨W.heap.size+1,0,none⟩=some (.int .u64 0):=cell_in (W:=wb) hbx2 rfl
 have f0:wb.drew.frozen? ⟨W.heap.size+1,0,none⟩=false:=frz (W:=wb) hbx2 0
 have z1:wb.drew.cell? ⟨W.heap.size+1,1,none⟩=some (.int .i64 0):=cell_in (W:=wb) hbx2 rfl
 have f1:wb.drew.frozen? ⟨W.heap.size+1,1,none⟩=false:=frz (W:=wb) hbx2 1
 have z2:wb.drew.cell? ⟨W.heap.size+1,2,none⟩=some (.int .u64 0):=cell_in (W:=wb) hbx2 rfl
 have f2:wb.drew.frozen? ⟨W.heap.size+1,2,none⟩=false:=frz (W:=wb) hbx2 2
 have z3:wb.drew.cell? ⟨W.heap.size+1,3,none⟩=some (.int .i64 0):=cell_in (W:=wb) hbx2 rfl
 have f3:wb.drew.frozen? ⟨W.heap.size+1,3,none⟩=false:=frz (W:=wb) hbx2 3
 have z4:wb.drew.cell? ⟨W.heap.size+1,4,none⟩=some (.int .i64 0):=cell_in (W:=wb) hbx2 rfl
 have f4:wb.drew.frozen? ⟨W.heap.size+1,4,none⟩=false:=frz (W:=wb) hbx2 4
 have z5:wb.drew.cell? ⟨W.heap.size+1,5,none⟩=some (.int .i64 0):=cell_in (W:=wb) hbx2 rfl
 have f5:wb.drew.frozen? ⟨W.heap.size+1,5,none⟩=false:=frz (W:=wb) hbx2 5
 have z6:wb.drew.cell? ⟨W.heap.size+1,6,none⟩=some (.slice none 0 0):=cell_in (W:=wb) hbx2 rfl
 have f6:wb.drew.frozen? ⟨W.heap.size+1,6,none⟩=false:=frz (W:=wb) hbx2 6
 have z7:wb.drew.cell? ⟨W.heap.size+1,7,none⟩=some (.int .u64 0):=cell_in (W:=wb) hbx2 rfl
 have f7:wb.drew.frozen? ⟨W.heap.size+1,7,none⟩=false:=frz (W:=wb) hbx2 7
 have z8:wb.drew.cell? ⟨W.heap.size+1,8,none⟩=some (.int .u64 0):=cell_in (W:=wb) hbx2 rfl
 have f8:wb.drew.frozen? ⟨W.heap.size+1,8,none⟩=false:=frz (W:=wb) hbx2 8
 have z9:wb.drew.cell? ⟨W.heap.size+1,9,none⟩=some (.int .u64 0):=cell_in (W:=wb) hbx2 rfl
 have f9:wb.drew.frozen? ⟨W.heap.size+1,9,none⟩=false:=frz (W:=wb) hbx2 9
 have z10:wb.drew.cell? ⟨W.heap.size+1,10,none⟩=some (.int .i64 0):=cell_in (W:=wb) hbx2 rfl
 have f10:wb.drew.frozen? ⟨W.heap.size+1,10,none⟩=false:=frz (W:=wb) hbx2 10
 have z11:wb.drew.cell? ⟨W.heap.size+1,11,none⟩=some (.int .i64 0):=cell_in (W:=wb) hbx2 rfl
 have f11:wb.drew.frozen? ⟨W.heap.size+1,11,none⟩=false:=frz (W:=wb) hbx2 11
 rw [hdn]
 rw [hdn] at HW KP0
 clear hwb hbx1 hbx2 hb0 hst hsv h hsz
 go_enter Tryz.func66,Tryz.ntmps66
 go_upto_region 1 with fail
 rw [HW.out]
 refine wp_region_held_drew (S:=fun W9=>((W9.cell? ⟨sb,0,none⟩=some (.slice R.pq p.nq R.pc)∧W9.cell? ⟨sb,1,none⟩=some (.int .u64 p.lk)∧W9.cell? ⟨sb,4,none⟩=some (.int .i64 p.fu)∧W9.cell? ⟨sb,5,none⟩=some (.slice (some ⟨gs,0,none⟩) p.nq cs))∧(W9.cell? ⟨W.heap.size,0,none⟩=some (.int .u64 e.t)∧W9.cell? ⟨W.heap.size,1,none⟩=some (.int .i64 e.s)∧W9.cell? ⟨W.heap.size,2,none⟩=some (.int .u64 e.q)∧W9.cell? ⟨W.heap.size,3,none⟩=some (.int .i64 (dn:Int))∧W9.cell? ⟨W.heap.size,4,none⟩=some (.int .i64 e.k)∧W9.cell? ⟨W.heap.size,5,none⟩=some (.int .i64 e.v))∧W9.cell? ⟨gs,dn*3,none⟩=some (.slice (R.C dn).p (R.C dn).n (R.C dn).c)∧W9.cell? ⟨gs,dn*3+1,none⟩=some (.int .u64 (R.C dn).d)∧W9.cell? ⟨gs,dn*3+2,none⟩=some (.int .u64 (R.C dn).s))) (by kernel_rfl) KP0 (fun hHeld=> ?_)
 refine wpAnyH_take (i:=0) (v:= ?hv0c) rfl (by kernel_rfl) (by kernel_rfl) (by kernel_rfl) (fun _ _ _ h=>h) (Or.inl ⟨by rfl,?hy0c⟩) (by assumption) ?hr0c
 case hy0c=>((intro W9 hSw;obtain ⟨⟨s0,s1,s4,s5⟩,⟨q0,q1,q2,q3,q4,q5⟩,u0,u1,u2⟩:=hSw;go_simp);try with_reducible rfl)
 simp only [List.getElem_toArray,List.getElem_cons_zero,List.getElem_cons_succ,Act.put,List.setIfInBounds_toArray,List.set_cons_zero,List.set_cons_succ]
 refine wpAnyH_take (i:=1) (v:= ?hv1c) rfl (by kernel_rfl) (by kernel_rfl) (by kernel_rfl) (fun _ _ _ h=>h) (Or.inl ⟨by rfl,?hy1c⟩) (by assumption) ?hr1c
 case hy1c=>((intro W9 hSw;obtain ⟨⟨s0,s1,s4,s5⟩,⟨q0,q1,q2,q3,q4,q5⟩,u0,u1,u2⟩:=hSw;go_simp);try with_reducible rfl)
 simp only [List.getElem_toArray,List.getElem_cons_zero,List.getElem_cons_succ,Act.put,List.setIfInBounds_toArray,List.set_cons_zero,List.set_cons_succ]
 refine wpAnyH_take (i:=2) (v:= ?hv2c) rfl (by kernel_rfl) (by kernel_rfl) (by kernel_rfl) (fun _ _ _ h=>h) (Or.inl ⟨by rfl,?hy2c⟩) (by assumption) ?hr2c
 case hy2c=>((intro W9 hSw;obtain ⟨⟨s0,s1,s4,s5⟩,⟨q0,q1,q2,q3,q4,q5⟩,u0,u1,u2⟩:=hSw;go_simp);try with_reducible rfl)
 simp only [List.getElem_toArray,List.getElem_cons_zero,List.getElem_cons_succ,Act.put,List.setIfInBounds_toArray,List.set_cons_zero,List.set_cons_succ]
 refine wpAnyH_take (i:=3) (v:= ?hv3c) rfl (by kernel_rfl) (by kernel_rfl) (by kernel_rfl) (fun _ _ _ h=>h) (Or.inl ⟨by rfl,?hy3c⟩) (by assumption) ?hr3c
 case hy3c=>((intro W9 hSw;obtain ⟨⟨s0,s1,s4,s5⟩,⟨q0,q1,q2,q3,q4,q5⟩,u0,u1,u2⟩:=hSw;go_simp);try with_reducible rfl)
 simp only [List.getElem_toArray,List.getElem_cons_zero,List.getElem_cons_succ,Act.put,List.setIfInBounds_toArray,List.set_cons_zero,List.set_cons_succ]
 refine wpAnyH_take (i:=4) (v:= ?hv4c) rfl (by kernel_rfl) (by kernel_rfl) (by kernel_rfl) (fun _ _ _ h=>h) (Or.inl ⟨by rfl,?hy4c⟩) (by assumption) ?hr4c
 case hy4c=>((intro W9 hSw;obtain ⟨⟨s0,s1,s4,s5⟩,⟨q0,q1,q2,q3,q4,q5⟩,u0,u1,u2⟩:=hSw;go_simp);try with_reducible rfl)
 simp only [List.getElem_toArray,List.getElem_cons_zero,List.getElem_cons_succ,Act.put,List.setIfInBounds_toArray,List.set_cons_zero,List.set_cons_succ]
 refine wpAnyH_take (i:=5) (v:= ?hv5c) rfl (by kernel_rfl) (by kernel_rfl) (by kernel_rfl) (fun _ _ _ h=>h) (Or.inl ⟨by rfl,?hy5c⟩) (by assumption) ?hr5c
 case hy5c=>((intro W9 hSw;obtain ⟨⟨s0,s1,s4,s5⟩,⟨q0,q1,q2,q3,q4,q5⟩,u0,u1,u2⟩:=hSw;go_simp);try with_reducible rfl)
 simp only [List.getElem_toArray,List.getElem_cons_zero,List.getElem_cons_succ,Act.put,List.setIfInBounds_toArray,List.set_cons_zero,List.set_cons_succ]
 refine wpAnyH_take (i:=6) (v:= ?hv6c) rfl (by kernel_rfl) (by kernel_rfl) (by kernel_rfl) (fun _ _ _ h=>h) (Or.inl ⟨by rfl,?hy6c⟩) (by assumption) ?hr6c
 case hy6c=>((intro W9 hSw;obtain ⟨⟨s0,s1,s4,s5⟩,⟨q0,q1,q2,q3,q4,q5⟩,u0,u1,u2⟩:=hSw;go_simp);try with_reducible rfl)
 simp only [List.getElem_toArray,List.getElem_cons_zero,List.getElem_cons_succ,Act.put,List.setIfInBounds_toArray,List.set_cons_zero,List.set_cons_succ]
 refine wpAnyH_take (i:=7) (v:= ?hv7c) rfl (by kernel_rfl) (by kernel_rfl) (by kernel_rfl) (fun _ _ _ h=>h) (Or.inl ⟨by rfl,?hy7c⟩) (by assumption) ?hr7c
 case hy7c=>((intro W9 hSw;obtain ⟨⟨s0,s1,s4,s5⟩,⟨q0,q1,q2,q3,q4,q5⟩,u0,u1,u2⟩:=hSw;go_simp);try with_reducible rfl)
 simp only [List.getElem_toArray,List.getElem_cons_zero,List.getElem_cons_succ,Act.put,List.setIfInBounds_toArray,List.set_cons_zero,List.set_cons_succ]
 refine wpAnyH_take (i:=8) (v:= ?hv8c) rfl (by kernel_rfl) (by kernel_rfl) (by kernel_rfl) (fun _ _ _ h=>h) (Or.inl ⟨by rfl,?hy8c⟩) (by assumption) ?hr8c
 case hy8c=>((intro W9 hSw;obtain ⟨⟨s0,s1,s4,s5⟩,⟨q0,q1,q2,q3,q4,q5⟩,u0,u1,u2⟩:=hSw;go_simp);try with_reducible rfl)
 simp only [List.getElem_toArray,List.getElem_cons_zero,List.getElem_cons_succ,Act.put,List.setIfInBounds_toArray,List.set_cons_zero,List.set_cons_succ]
 refine wpAnyH_take (i:=9) (v:= ?hv9c) rfl (by kernel_rfl) (by kernel_rfl) (by kernel_rfl) (fun _ _ _ h=>h) (Or.inl ⟨by rfl,?hy9c⟩) (by assumption) ?hr9c
 case hy9c=>((intro W9 hSw;obtain ⟨⟨s0,s1,s4,s5⟩,⟨q0,q1,q2,q3,q4,q5⟩,u0,u1,u2⟩:=hSw;go_simp);try with_reducible rfl)
 simp only [List.getElem_toArray,List.getElem_cons_zero,List.getElem_cons_succ,Act.put,List.setIfInBounds_toArray,List.set_cons_zero,List.set_cons_succ]
 refine wpAnyH_take (i:=10) (v:= ?hv10c) rfl (by kernel_rfl) (by kernel_rfl) (by kernel_rfl) (fun _ _ _ h=>h) (Or.inl ⟨by rfl,?hy10c⟩) (by assumption) ?hr10c
 case hy10c=>((intro W9 hSw;obtain ⟨⟨s0,s1,s4,s5⟩,⟨q0,q1,q2,q3,q4,q5⟩,u0,u1,u2⟩:=hSw;go_simp);try with_reducible rfl)
 simp only [List.getElem_toArray,List.getElem_cons_zero,List.getElem_cons_succ,Act.put,List.setIfInBounds_toArray,List.set_cons_zero,List.set_cons_succ]
 refine wpAnyH_take (i:=11) (v:= ?hv11c) rfl (by kernel_rfl) (by kernel_rfl) (by kernel_rfl) (fun _ _ _ h=>h) (Or.inl ⟨by rfl,?hy11c⟩) (by assumption) ?hr11c
 case hy11c=>((intro W9 hSw;obtain ⟨⟨s0,s1,s4,s5⟩,⟨q0,q1,q2,q3,q4,q5⟩,u0,u1,u2⟩:=hSw;go_simp);try with_reducible rfl)
 simp only [List.getElem_toArray,List.getElem_cons_zero,List.getElem_cons_succ,Act.put,List.setIfInBounds_toArray,List.set_cons_zero,List.set_cons_succ]
 refine wpAnyH_take (i:=12) (v:= ?hv12c) rfl (by kernel_rfl) (by kernel_rfl) (by kernel_rfl) (fun _ _ _ h=>h) (Or.inl ⟨by rfl,?hy12c⟩) (by assumption) ?hr12c
 case hy12c=>((intro W9 hSw;obtain ⟨⟨s0,s1,s4,s5⟩,⟨q0,q1,q2,q3,q4,q5⟩,u0,u1,u2⟩:=hSw;go_simp);try with_reducible rfl)
 simp only [List.getElem_toArray,List.getElem_cons_zero,List.getElem_cons_succ,Act.put,List.setIfInBounds_toArray,List.set_cons_zero,List.set_cons_succ]
 refine wpAnyH_take (i:=13) (v:= ?hv13c) rfl (by kernel_rfl) (by kernel_rfl) (by kernel_rfl) (fun _ _ _ h=>h) (Or.inl ⟨by rfl,?hy13c⟩) (by assumption) ?hr13c
 case hy13c=>((intro W9 hSw;obtain ⟨⟨s0,s1,s4,s5⟩,⟨q0,q1,q2,q3,q4,q5⟩,u0,u1,u2⟩:=hSw;go_simp);try with_reducible rfl)
 simp only [List.getElem_toArray,List.getElem_cons_zero,List.getElem_cons_succ,Act.put,List.setIfInBounds_toArray,List.set_cons_zero,List.set_cons_succ]
 refine wpAnyH_take (i:=14) (v:= ?hv14c) rfl (by kernel_rfl) (by kernel_rfl) (by kernel_rfl) (fun _ _ _ h=>h) (Or.inl ⟨by rfl,?hy14c⟩) (by assumption) ?hr14c
 case hy14c=>((intro W9 hSw;obtain ⟨⟨s0,s1,s4,s5⟩,⟨q0,q1,q2,q3,q4,q5⟩,u0,u1,u2⟩:=hSw;go_simp);try with_reducible rfl)
 simp only [List.getElem_toArray,List.getElem_cons_zero,List.getElem_cons_succ,Act.put,List.setIfInBounds_toArray,List.set_cons_zero,List.set_cons_succ]
 refine wpAnyH_take (i:=15) (v:= ?hv15c) rfl (by kernel_rfl) (by kernel_rfl) (by kernel_rfl) (fun _ _ _ h=>h) (Or.inl ⟨by rfl,?hy15c⟩) (by assumption) ?hr15c
 case hy15c=>((intro W9 hSw;obtain ⟨⟨s0,s1,s4,s5⟩,⟨q0,q1,q2,q3,q4,q5⟩,u0,u1,u2⟩:=hSw;go_simp);try with_reducible rfl)
 simp only [List.getElem_toArray,List.getElem_cons_zero,List.getElem_cons_succ,Act.put,List.setIfInBounds_toArray,List.set_cons_zero,List.set_cons_succ]
 refine wpAnyH_take (i:=16) (v:= ?hv16c) rfl (by kernel_rfl) (by kernel_rfl) (by kernel_rfl) (fun _ _ _ h=>h) (Or.inl ⟨by rfl,?hy16c⟩) (by assumption) ?hr16c
 case hy16c=>((intro W9 hSw;obtain ⟨⟨s0,s1,s4,s5⟩,⟨q0,q1,q2,q3,q4,q5⟩,u0,u1,u2⟩:=hSw;go_simp);try with_reducible rfl)
 simp only [List.getElem_toArray,List.getElem_cons_zero,List.getElem_cons_succ,Act.put,List.setIfInBounds_toArray,List.set_cons_zero,List.set_cons_succ]
 refine wpAnyH_take (i:=17) (v:= ?hv17c) rfl (by kernel_rfl) (by kernel_rfl) (by kernel_rfl) (fun _ _ _ h=>h) (Or.inl ⟨by rfl,?hy17c⟩) (by assumption) ?hr17c
 case hy17c=>((intro W9 hSw;obtain ⟨⟨s0,s1,s4,s5⟩,⟨q0,q1,q2,q3,q4,q5⟩,u0,u1,u2⟩:=hSw;go_simp);try with_reducible rfl)
 simp only [List.getElem_toArray,List.getElem_cons_zero,List.getElem_cons_succ,Act.put,List.setIfInBounds_toArray,List.set_cons_zero,List.set_cons_succ]
 refine wpAnyH_take (i:=18) (v:= ?hv18c) rfl (by kernel_rfl) (by kernel_rfl) (by kernel_rfl) (fun _ _ _ h=>h) (Or.inl ⟨by rfl,?hy18c⟩) (by assumption) ?hr18c
 case hy18c=>((intro W9 hSw;obtain ⟨⟨s0,s1,s4,s5⟩,⟨q0,q1,q2,q3,q4,q5⟩,u0,u1,u2⟩:=hSw;go_simp);try with_reducible rfl)
 simp only [List.getElem_toArray,List.getElem_cons_zero,List.getElem_cons_succ,Act.put,List.setIfInBounds_toArray,List.set_cons_zero,List.set_cons_succ]
 refine wpAnyH_take (i:=19) (v:= ?hv19c) rfl (by kernel_rfl) (by kernel_rfl) (by kernel_rfl) (fun _ _ _ h=>h) (Or.inl ⟨by rfl,?hy19c⟩) (by assumption) ?hr19c
 case hy19c=>((intro W9 hSw;obtain ⟨⟨s0,s1,s4,s5⟩,⟨q0,q1,q2,q3,q4,q5⟩,u0,u1,u2⟩:=hSw;go_simp);try with_reducible rfl)
 simp only [List.getElem_toArray,List.getElem_cons_zero,List.getElem_cons_succ,Act.put,List.setIfInBounds_toArray,List.set_cons_zero,List.set_cons_succ]
 refine wpAnyH_take (i:=20) (v:= ?hv20c) rfl (by kernel_rfl) (by kernel_rfl) (by kernel_rfl) (fun _ _ _ h=>h) (Or.inl ⟨by rfl,?hy20c⟩) (by assumption) ?hr20c
 case hy20c=>((intro W9 hSw;obtain ⟨⟨s0,s1,s4,s5⟩,⟨q0,q1,q2,q3,q4,q5⟩,u0,u1,u2⟩:=hSw;go_simp);try with_reducible rfl)
 simp only [List.getElem_toArray,List.getElem_cons_zero,List.getElem_cons_succ,Act.put,List.setIfInBounds_toArray,List.set_cons_zero,List.set_cons_succ]
 refine wpAnyH_take (i:=21) (v:= ?hv21c) rfl (by kernel_rfl) (by kernel_rfl) (by kernel_rfl) (fun _ _ _ h=>h) (Or.inl ⟨by rfl,?hy21c⟩) (by assumption) ?hr21c
 case hy21c=>((intro W9 hSw;obtain ⟨⟨s0,s1,s4,s5⟩,⟨q0,q1,q2,q3,q4,q5⟩,u0,u1,u2⟩:=hSw;go_simp);try with_reducible rfl)
 simp only [List.getElem_toArray,List.getElem_cons_zero,List.getElem_cons_succ,Act.put,List.setIfInBounds_toArray,List.set_cons_zero,List.set_cons_succ]
 refine wpAnyH_take (i:=22) (v:= ?hv22c) rfl (by kernel_rfl) (by kernel_rfl) (by kernel_rfl) (fun _ _ _ h=>h) (Or.inl ⟨by rfl,?hy22c⟩) (by assumption) ?hr22c
 case hy22c=>((intro W9 hSw;obtain ⟨⟨s0,s1,s4,s5⟩,⟨q0,q1,q2,q3,q4,q5⟩,u0,u1,u2⟩:=hSw;go_simp);try with_reducible rfl)
 simp only [List.getElem_toArray,List.getElem_cons_zero,List.getElem_cons_succ,Act.put,List.setIfInBounds_toArray,List.set_cons_zero,List.set_cons_succ]
 refine wpAnyH_ready (rs:= [23]) (by kernel_rfl) (by simp) (AllReadyH.cons rfl (fun KK9 hK=> ?_) AllReadyH.nil)
 all_goals dsimp -proj only [List.getElem_toArray,List.getElem_cons_zero,List.getElem_cons_succ]
 refine step_store_row rfl 131 _ _ rfl (W.heap.size+1) _ rfl rfl 131 _ HR.out.1 (by kernel_rfl) rfl (by kernel_rfl) ?_
 refine hK.out _ _ (by rw [←hdn];exact (KK _ (hkd.trans (Kq.row _ _ _ rfl))).out) (fun hHeld=> ?_)
 clear hK KK9
 try simp only [Act.put,List.setIfInBounds_toArray,List.set_cons_zero,List.set_cons_succ]
 refine wpAnyH_done (by kernel_rfl) ?_ _
 go_wp2_with fail
 refine bodyPost_ret_by (v:=.agg #[.int .u64 e.t,.int .i64 e.s,.int .u64 e.q,.int .i64 (dn:Int),.int .i64 e.k,.int .i64 e.v,.slice (R.C dn).p (R.C dn).n (R.C dn).c,.int .u64 (R.C dn).d,.int .u64 (R.C dn).s,.int .u64 p.lk,.int .i64 (p.nq:Int),.int .i64 p.fu]) (results_cell_row (p:=4) (ty:=131) rfl _ _ (W.heap.size+1) 131 _ (0,0) _ rfl (setRow_heap _ _ _ _ _ _ HR.out.1) Tryz.underlying131 rfl (by kernel_rfl)) rfl ?_
 exact ⟨rfl,HR.out.2.trans (setRow_below _ ((Below.refl _ wb).drew.mono HR.out.2.size) (Nat.le_succ _))⟩
end Go.Proofs.YtecgecpgmpmkoaaGreat
