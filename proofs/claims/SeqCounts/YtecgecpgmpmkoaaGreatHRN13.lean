import Derived.RangeFuncNested
import Derived.RangeFuncBound
import Derived.RangeFuncCalls
import Derived.RangeFuncLeaves
import Derived.OwnWalkIn
import Derived.TacticsInMore
import Derived.Test.YtecgecpgmpmkoaaGreatProg
import Derived.Test.YtecgecpgmpmkoaaGreatHRN12
import Derived.LoopNIn
import Derived.LoopIn
import Derived.Stop.RegionWithIn
namespace Go.Proofs.YtecgecpgmpmkoaaGreat
open Go.RowKit
attribute [local go_sem] Oper.semAt_some
theorem range_idle {n:Nat} {P:Program} {g:Operand} {ps:Array Tmp} {Q:Exit→Act→World→Prop} {a:Act} {w:World}
  (h1:1≤n) {gf:Nat} {lb:Array Value} (hg:a.eval g=.func (.func gf) #[] lb) (eg: ∀args w,(callFunc gf args).run P w=.ok (.enter gf args) w)
  (Post:Nat→Nat→World→Prop)
  (hseq: ∀(L D:Nat) (rc:Loop) (W1:World),Below w.heap.size w W1→D=w.heap.size→L=w.heap.size+1→W1.heap[L]? =some (.loop rc)→W1.heap[D]? =some (.deferred (some []))→
   (∀(m:Nat) (vs:Array Value) (W:World),vs.size=ps.size→W.heap[L]? =some (.loop rc)→YieldAt Fence.wide m P L vs W fun e W'=>e=.returned (.bool true)∧(W'.os=W.os∧W'.tape=W.tape∧W'.output=W.output)∧W'.heap.size=W.heap.size∧(∀k:Nat,W'.heap[k]? =W.heap[k]?))→
   CallsIn Fence.wide (n-1) P gf (#[.func (.yield L) #[] #[]]++lb) W1 fun e W'=>(∃v,e=.returned v)∧W'.heap[L]? =some (.loop rc)∧W'.heap[D]? =some (.deferred (some []))∧Post L D W')
  (hdone: ∀(D L:Nat) (W:World) (o:Obj),D=w.heap.size→L=w.heap.size+1→L<W.heap.size→Post L D W→W.heap[D]? =some (.deferred (some []))→Q .normal { a with defers:= { target:=.collected D,args:= #[] } ::a.defers } (W.putObj L o)):
  (Code.rangeFunc g ps .skip (.block 1 .skip)).wpIn Fence.wide n P Q a w:=by
 refine wpIn_rangeFunc ?_
 intro fn hfn
 have hro:Fence.wide.round=none:=rfl
 rw [hro]
 let rec':LoopState→Option Code→Loop:=fun st pe=> { state:=st,pending:=pe,fn,tmps:=a.tmps,params:=ps,assign:=.skip,body:=.block 1 .skip,defers:=w.heap.size }
 obtain ⟨rc,hrc⟩: ∃rc,rc=rec':=⟨_,rfl⟩
 obtain ⟨L,hL⟩: ∃L,w.heap.size+1=L:=⟨_,rfl⟩
 obtain ⟨D,hD⟩: ∃D,w.heap.size=D:=⟨_,rfl⟩
 obtain ⟨W1,hW1⟩: ∃W1,(w.alloc (.deferred (some []))).alloc (.loop (rc .ready none))=W1:=⟨_,rfl⟩
 have hsz:W1.heap.size=w.heap.size+2:=by rw [←hW1];simp
 have hL1:W1.heap[L]? =some (.loop (rc .ready none)):=by
  rw [←hW1,←hL]
  have:=World.alloc_heap_new (w.alloc (.deferred (some []))) (.loop (rc .ready none))
  rwa [World.size_alloc] at this
 have hD1:W1.heap[D]? =some (.deferred (some [])):=by
  rw [←hW1,←hD]
  exact (Below.heap_alloc _ _ _ (by simp)).trans (World.alloc_heap_new w _)
 have hb1:Below w.heap.size w W1:=by
  rw [←hW1]
  exact ((Below.refl _ w).alloc (Nat.le_refl _) _).alloc (by simp) _
 refine ⟨L,[{ target:=.collected D,args:= #[] }],W1,{ target:=.fn (.func gf) lb,args:= #[.func (.yield L) #[] #[]] },W1,gf,#[.func (.yield L) #[] #[]]++lb,W1,?_,?_,?_,?_,fun _=>h1,?_⟩
 ·rw [←hW1,hrc,←hL,←hD];exact run_enterLoop_outer _ _ _ _ _
 ·simp only [resolve,hg]
  simp [go_sem]
 ·intro f' hf'
  trivial
 ·simp [invoke,go_sem,eg]
 refine (hseq L D (rc .ready none) W1 hb1 hD.symm hL.symm hL1 hD1 ?_).mono ?_
 ·
  intro m vs W hvs hl
  have hlt:L<W.heap.size:=(Array.getElem?_eq_some_iff.1 hl).1
  have hy:=run_yield (P:=P) (args:=vs) hl (by rw [hrc];exact hvs)
  rw [hrc] at hy
  refine ⟨fn,_,.skip,.block 1 .skip,hy,roundIn_of_wpIn hfn ?_⟩
  refine wpIn_skip ?_
  have hb:=run_beginRound (P:=P) hl (by rw [hrc])
  refine ⟨_,hb,?_⟩
  refine wpIn_block (wpIn_skip ?_)
  obtain ⟨Wa,hWa⟩: ∃Wa,W.putObj L (.loop { rc .ready none with state:=.busy })=Wa:=⟨_,rfl⟩
  have hla:Wa.heap[L]? =some (.loop { rc .ready none with state:=.busy }):=by rw [←hWa];exact World.putObj_heap_same hlt
  have he:=run_endRound (P:=P) none hla
  have hlt2:L<Wa.heap.size:=(Array.getElem?_eq_some_iff.1 hla).1
  have hoo: ∀k:Nat,k≠L→Wa.heap[k]? =W.heap[k]? :=fun k hk=>by rw [←hWa];exact World.putObj_heap_other hk
  have hos:(Wa.os=W.os∧Wa.tape=W.tape∧Wa.output=W.output)∧Wa.heap.size=W.heap.size:=by rw [←hWa];exact ⟨⟨rfl,rfl,rfl⟩,by simp⟩
  rw [hWa]
  refine ⟨_,_,he,rfl,⟨hos.1.1,hos.1.2.1,hos.1.2.2⟩,?_,?_⟩
  ·simpa using hos.2
  intro k
  by_cases hk:k=L
  ·subst hk
   refine (World.putObj_heap_same hlt2).trans ?_
   rw [hl,hrc]
   rfl
  ·exact (World.putObj_heap_other hk).trans (hoo k hk)
 ·rintro e W2 ⟨⟨v,rfl⟩,hl,hd,hp⟩
  have he:=run_endLoop (P:=P) hl (by rw [hrc];simp [rec'])
  have hlt:L<W2.heap.size:=(Array.getElem?_eq_some_iff.1 hl).1
  exact ⟨none,_,by rw [hrc] at he;exact he,hdone D L _ _ hD.symm hL.symm hlt hp hd⟩
end Go.Proofs.YtecgecpgmpmkoaaGreat
namespace Go.Proofs.YtecgecpgmpmkoaaGreat
open Go.ChangeShapes Go.WideShapes Go.ChangeAt Go.RowKit
set_option linter.unusedVariables false
set_option linter.unusedSimpArgs false
attribute [local go_sem] Oper.semAt_some
inductive StepsR (p:Pl) (A:Ab):Nat→Ab→Prop
 |zero:StepsR p A 0 A
 |more {n:Nat} {B C:Ab} {x:Se} :StepsR p A n B→StepR p B x 0 C→StepsR p A (n+1) C
theorem StepsR.one {p:Pl} {A:Ab} {n:Nat} {B:Ab} (h:StepsR p A n B): ∀ {B':Ab},StepsR p A n B'→B=B':=by
 induction h with
 |zero=>intro B' h';cases h';rfl
 |more h1 h2 ih=>
  intro B' h'
  cases h' with
  |more h3 h4=>
   obtain rfl:=ih h3
   exact (h2.one h4).2.2
theorem StepsR.pre {p:Pl} {A:Ab} {n:Nat} {B:Ab} (h:StepsR p A n B): ∀m,m<n→ ∃B' x C,StepsR p A m B'∧StepR p B' x 0 C∧StepsR p A (m+1) C:=by
 induction h with
 |zero=>intro m hm;omega
 |more h1 h2 ih=>
  intro m hm
  rename_i k _ _ _
  by_cases e:m=k
  ·subst e
   exact ⟨_,_,_,h1,h2,h1.more h2⟩
  ·exact ih m (by omega)
theorem StepsR.m {p:Pl} {A:Ab} {n:Nat} {B:Ab} (h:StepsR p A n B):B.m=A.m+n:=by
 induction h with
 |zero=>rfl
 |more h1 h2 ih=>
  rcases h2 with ⟨_,h,_⟩|⟨_,x,_,⟨h,h',_⟩|⟨_,_,_,rfl⟩⟩
  ·cases h
  ·exact absurd h'.symm h
  ·show _+1=_
   omega
def EndR (p:Pl) (A C:Ab):Prop:= ∃n B x c,StepsR p A n B∧StepR p B x c C∧c≠0
theorem EndR.one {p:Pl} {A C C':Ab} (h:EndR p A C) (h':EndR p A C'):C=C':=by
 obtain ⟨n,B,x,c,h1,h2,h3⟩:=h
 obtain ⟨n',B',x',c',h1',h2',h3'⟩:=h'
 have key: ∀ {n n':Nat} {B B':Ab} {x:Se} {c:Int} {C:Ab},StepsR p A n B→StepR p B x c C→c≠0→StepsR p A n' B'→ ¬n<n':=fun a b d e hlt=>by
  obtain ⟨B0,x0,C0,k1,k2,k3⟩:=e.pre _ hlt
  obtain rfl:=k1.one a
  exact d (k2.one b).2.1.symm
 have e1:=key h1 h2 h3 h1'
 have e2:=key h1' h2' h3' h1
 obtain rfl:n=n':=by omega
 obtain rfl:=h1.one h1'
 exact (h2.one h2').2.2
theorem below_same {W W':World} (h1:W'.os=W.os∧W'.tape=W.tape∧W'.output=W.output) (h2:W'.heap.size=W.heap.size) (h3: ∀k:Nat,W'.heap[k]? =W.heap[k]?):Below W.heap.size W W':=⟨h1.1,h1.2.1,h1.2.2,by omega,fun k _=>h3 k⟩
theorem Kq.go {S S1:Nat→Prop} {a b c:World} (h:Kq S a b) (h':Kq S1 b c) (hs: ∀k,k<a.heap.size→S1 k→S k):Kq S a c:=⟨h'.os.trans h.os,h'.tape.trans h.tape,h'.output.trans h.output,Nat.le_trans h.size h'.size,fun k hk h9=>(h'.block k (Nat.lt_of_lt_of_le hk h.size) fun e=>h9 (hs k hk e)).trans (h.block k hk h9)⟩
set_option maxRecDepth 100000 in
set_option maxHeartbeats 8000000 in
theorem drive_in (W:World) (b0 sb:Nat) (p:Pl) (A:Ab) (R:Rv) (h:SimR W b0 sb p A R) (ho:AOk2 p A) (hpl:PlOk p) (n L:Nat) (rc:Loop) (hl:W.heap[L]? =some (.loop rc)) (hL: ¬Mu sb R L)
  (hY: ∀(m:Nat) (vs:Array Value) (W:World),vs.size=2→W.heap[L]? =some (.loop rc)→YieldAt Fence.wide m Tryz.prog L vs W fun e W'=>e=.returned (.bool true)∧(W'.os=W.os∧W'.tape=W.tape∧W'.output=W.output)∧W'.heap.size=W.heap.size∧(∀k:Nat,W'.heap[k]? =W.heap[k]?)):
  CallsIn Fence.wide n Tryz.prog 90 #[.func (.func 22) #[.pointer (some ⟨sb,0,none⟩)] #[],.func (.yield L) #[] #[]] W fun e W'=>(∃v,e=.returned v)∧ ∃(C:Ab) (R':Rv),EndR p A C∧SimR W' b0 sb p C R'∧AOk2 p C∧Kq (Mu sb R) W W'∧(∀k,k<W.heap.size→Mu sb R' k→Mu sb R k)∧ ∀r,r<W.heap.size→Av p R sb r→Av p R' sb r:=by
 have hLs:L<W.heap.size:=(Array.getElem?_eq_some_iff.1 hl).1
 refine callsIn_of_wp Tryz.func90 rfl trivial ?_ rfl
 simp only [Tryz.ntmps90,List.size_toArray,List.length_cons,List.length_nil,Nat.reduceAdd,Nat.reduceSub,Array.replicate_succ,Array.replicate_zero,List.push_toArray,List.append_toArray,List.nil_append,List.cons_append]
 gi_wp2
 have HA:Hid (SimR W b0 sb p A R∧AOk2 p A∧PlOk p∧W.heap[L]? =some (.loop rc)∧ ¬Mu sb R L):=⟨h,ho,hpl,hl,hL⟩
 clear h ho hl hL
 gi_loopw [4] (fun v4 wr=> ∃(q:Nat) (B:Ab) (R1:Rv),v4=.int .i64 q∧q≤5000∧StepsR p A q B∧SimR wr b0 sb p B R1∧AOk2 p B∧Kq (Mu sb R) W wr∧(∀k,k<W.heap.size→Mu sb R1 k→Mu sb R k)∧ ∀r,r<W.heap.size→Av p R sb r→Av p R1 sb r) (fun v4 _=>5000-(intOf v4).toNat)
 case atStart=>exact ⟨0,A,R,rfl,by omega,.zero,HA.out.1,HA.out.2.1,Kq.refl _ _,fun _ _ h=>h,fun _ _ h=>h⟩
 case round=>
  obtain ⟨q,B,R1,rfl,hq,hst,hsim,hok,hkq,hmu,hav⟩:=hrel
  have HS: ∀w1,Below wr.heap.size wr w1→Hid (CallsIn Fence.wide (n-1) Tryz.prog 22 #[.pointer (some ⟨sb,0,none⟩)] w1 fun r W'=> ∃(C:Ab) (R':Rv) (x:Se) (c:Int),r=.returned (.tuple #[.agg #[.int .u64 x.t,.int .i64 x.s,.int .u64 x.q,.int .i64 x.d,.int .i64 x.k,.int .i64 x.v],.int .i64 c])∧StepR p B x c C∧SimR W' b0 sb p C R'∧AOk2 p C∧Kq (Mu sb R1) w1 W'∧(∀k,k<w1.heap.size→Mu sb R' k→Mu sb R1 k)∧ ∀r,r<w1.heap.size→Av p R1 sb r→Av p R' sb r):=fun w1 hb=>callsIn_wide.2 (step_any w1 b0 sb p B R1 (hsim.below hb) hok hpl)
  have hS:=(HS wr (Below.refl _ _)).out
  clear HS
  gi_wp2_with (refine ⟨trivial,(fun h=>by cases h),?_⟩;gi_at_call 22;(with_reducible refine hS.mono ?_);rintro e w1 ⟨C,R2,x,c,rfl,hstep,hsim2,hok2,hkq2,hmu2,hav2⟩;have hag: ∀r,r<W.heap.size→Av p R sb r→Av p R2 sb r:=(fun r hr h9=>hav2 r (Nat.lt_of_lt_of_le hr hkq.size) (hav r hr h9));have hg:=hkq.go hkq2 hmu;have hmg: ∀k,k<W.heap.size→Mu sb R2 k→Mu sb R k:=(fun k hk h9=>hmu k hk (hmu2 k (Nat.lt_of_lt_of_le hk hkq.size) h9));have hL1:=(hg.block L hLs HA.out.2.2.2.2).trans HA.out.2.2.2.1;have hal:=(Below.refl w1.heap.size w1).alloc (Nat.le_refl _) (.cells #[.int .u64 x.t,.int .i64 x.s,.int .u64 x.q,.int .i64 x.d,.int .i64 x.k,.int .i64 x.v] 54);obtain ⟨bb,hbb⟩: ∃bb,(c !=0)=bb:=⟨_,rfl⟩;cases bb)
  rotate_left
  ·refine ⟨(fun _ h=>by cases h),?_⟩
   gi_wp2
   refine bodyPost_ret (results_none rfl _ _ _) rfl ?_
   exact ⟨⟨_,rfl⟩,C,R2,⟨q,B,x,c,hst,hstep,by simpa using hbb⟩,hsim2.below hal,hok2,hg.trans (Kq.below hal),hmg,hag⟩
  ·obtain ⟨fn,tm,asg,bd,hy,hRd⟩:=hY (n-1) #[.int .i64 q,.agg #[.int .u64 x.t,.int .i64 x.s,.int .u64 x.q,.int .i64 x.d,.int .i64 x.k,.int .i64 x.v]] (w1.alloc (.cells #[.int .u64 x.t,.int .i64 x.s,.int .u64 x.q,.int .i64 x.d,.int .i64 x.k,.int .i64 x.v] 54)) rfl ((hal.block L (Nat.lt_of_lt_of_le hLs hg.size)).trans hL1)
   obtain rfl:c=0:=by simpa using hbb
   have hst2:=hst.more hstep
   have hm:=hst2.m
   have hm2:=hok2.m
   clear hbb
   rw [hy]
   refine ⟨(fun h=>by cases h),?_⟩
   refine hRd.mono ?_
   rintro e' w2 ⟨rfl,ho2,hs2,hh2⟩
   have hb2:=below_same ho2 hs2 hh2
   have hb3:Below w1.heap.size w1 w2:=hal.trans (hb2.mono hal.size)
   have HN:Hid (StepsR p A (q+1) C∧SimR w2 b0 sb p C R2∧AOk2 p C∧Kq (Mu sb R) W w2∧(∀k,k<W.heap.size→Mu sb R2 k→Mu sb R k)∧ ∀r,r<W.heap.size→Av p R sb r→Av p R2 sb r):=⟨hst2,hsim2.below hb3,hok2,hg.trans (Kq.below hb3),hmg,hag⟩
   have hq1:(q:Int)+1<9223372036854775808:=by omega
   have hq2:q+1≤5000:=by omega
   clear hy hRd ho2 hs2 hh2 hb2 hb3 hst2 hm hm2 hstep hsim2 hok2 hkq2 hmu2 hav2 hag hg hmg hL1 hal
   gi_wp2
   exact ⟨⟨q+1,C,R2,by simp,hq2,HN.out⟩,by simp [intOf];omega⟩
end Go.Proofs.YtecgecpgmpmkoaaGreat
