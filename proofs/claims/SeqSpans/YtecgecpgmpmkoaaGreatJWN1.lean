import Derived.RangeFuncNested
import Derived.RangeFuncBound
import Derived.RangeFuncCalls
import Derived.RangeFuncLeaves
import Derived.OwnWalkIn
import Derived.TacticsInMore
import Derived.Test.YtecgecpgmpmkoaaGreatProg
import Derived.Sort.QuietIn
import Derived.Deep.RegionHeld3
import Derived.Stop.RegionWithIn
import Derived.Test.YtecgecpgmpmkoaaGreatJRN17
namespace Go.Proofs.YtecgecpgmpmkoaaGreat
open Go.RowKit
attribute [local go_sem] Oper.semAt_some
def But (L:Nat) (W W':World):Prop:=(W'.os=W.os∧W'.tape=W.tape∧W'.output=W.output)∧W'.heap.size=W.heap.size∧ ∀k:Nat,k≠L→W'.heap[k]? =W.heap[k]?
theorem But.put (L:Nat) (W:World) (o:Obj):But L W (W.putObj L o):=⟨⟨rfl,rfl,rfl⟩,by simp,fun k hk=>World.putObj_heap_other hk⟩
def rexit (O:World→Prop) (Ox:Code→World→Prop):Exit→World→Prop
 | .normal,W=>O W
 | .ret,W=>Ox .ret W
 | .exit id,W=>Ox (.exit id) W
 | .goto t,W=>Ox (.goto t) W
 | .panic _,_=>False
 | .outgrown,_=>False
theorem range_mut {n:Nat} {P:Program} {g:Operand} {ps:Array Tmp} {assign body:Code} {Q:Exit→Act→World→Prop} {a:Act} {w:World}
  (h1:1≤n) {gf:Nat} {lb:Array Value} (hg:a.eval g=.func (.func gf) #[] lb) (eg: ∀args w,(callFunc gf args).run P w=.ok (.enter gf args) w)
  (I:Array Value→World→Prop) (A:Array Value→World→Act→World→Prop) (O:Array Value→World→World→Prop) (Ox:Code→Array Value→World→World→Prop)
  (hA: ∀vs W a' W1 W2,A vs W a' W1→But (w.heap.size+1) W1 W2→A vs W a' W2)
  (hO: ∀vs W W1 W2,O vs W W1→But (w.heap.size+1) W1 W2→O vs W W2)
  (hOx: ∀c vs W W1 W2,Ox c vs W W1→But (w.heap.size+1) W1 W2→Ox c vs W W2)
  (hassign: ∀(m:Nat) (vs:Array Value) (W:World) (K:Act→World→Prop),I vs W→w.heap.size+1<W.heap.size→(∀a' W',A vs W a' W'→W'.heap[w.heap.size+1]? =W.heap[w.heap.size+1]? →K a' W')→
   assign.wpIn (Fence.wide.inRound (w.heap.size+1)) m P (Exit.then K (fun _ _ _=>False)) { tmps:=(ps.zip vs).foldl (fun t (p,v)=>t.setIfInBounds p v) a.tmps,defers:= [] } W)
  (hbody: ∀(m:Nat) (vs:Array Value) (W:World) (a':Act) (W':World) (rc:Loop),A vs W a' W'→W'.heap[w.heap.size+1]? =some (.loop rc)→body.wpIn (Fence.wide.inRound (w.heap.size+1)) m P (fun e _ W3=>W3.heap[w.heap.size+1]? =some (.loop rc)∧rexit (O vs W) (fun c=>Ox c vs W) e W3) a' W')
  (hps: ∀vs W,I vs W→vs.size=ps.size)
  (Post:World→Prop) (Postx:Code→World→Prop)
  (hseq: ∀(L D:Nat) (rc:Loop) (rx:Code→Loop) (W1:World),Below w.heap.size w W1→W1.heap.size=w.heap.size+2→D=w.heap.size→L=w.heap.size+1→W1.heap[L]? =some (.loop rc)→W1.heap[D]? =some (.deferred (some []))→
   (∀(m:Nat) (vs:Array Value) (W:World),I vs W→W.heap[L]? =some (.loop rc)→YieldAt Fence.wide m P L vs W fun e W'=>(e=.returned (.bool true)∧O vs W W'∧W'.heap[L]? =some (.loop rc))∨(e=.returned (.bool false)∧ ∃c,Ox c vs W W'∧W'.heap[L]? =some (.loop (rx c))))→
   CallsIn Fence.wide (n-1) P gf (#[.func (.yield L) #[] #[]]++lb) W1 fun e W'=>(∃v,e=.returned v)∧W'.heap[D]? =some (.deferred (some []))∧((W'.heap[L]? =some (.loop rc)∧Post W')∨ ∃c,W'.heap[L]? =some (.loop (rx c))∧Postx c W'))
  (hdone: ∀(D L:Nat) (W W':World),D=w.heap.size→L=w.heap.size+1→L<W.heap.size→Post W→But L W W'→W'.heap[D]? =some (.deferred (some []))→Q .normal { a with defers:= { target:=.collected D,args:= #[] } ::a.defers } W')
  (hstop: ∀(D L:Nat) (c:Code) (W W':World),D=w.heap.size→L=w.heap.size+1→L<W.heap.size→Postx c W→But L W W'→W'.heap[D]? =some (.deferred (some []))→c.wpIn Fence.wide n P Q { a with defers:= { target:=.collected D,args:= #[] } ::a.defers } W'):
  (Code.rangeFunc g ps assign body).wpIn Fence.wide n P Q a w:=by
 refine wpIn_rangeFunc ?_
 intro fn hfn
 have hro:Fence.wide.round=none:=rfl
 rw [hro]
 let rec':LoopState→Option Code→Loop:=fun st pe=> { state:=st,pending:=pe,fn,tmps:=a.tmps,params:=ps,assign,body,defers:=w.heap.size }
 obtain ⟨rc,hrc⟩: ∃rc,rc=rec':=⟨_,rfl⟩
 obtain ⟨L,hL⟩: ∃L,w.heap.size+1=L:=⟨_,rfl⟩
 obtain ⟨D,hD⟩: ∃D,w.heap.size=D:=⟨_,rfl⟩
 rw [hL] at hA hO hOx hassign hbody
 obtain ⟨W1,hW1⟩: ∃W1,(w.alloc (.deferred (some []))).alloc (.loop (rc .ready none))=W1:=⟨_,rfl⟩
 have hsz:W1.heap.size=w.heap.size+2:=by rw [←hW1];simp
 have hL1:W1.heap[L]? =some (.loop (rc .ready none)):=by
  rw [←hW1,←hL]
  have:=World.alloc_heap_new (w.alloc (.deferred (some []))) (.loop (rc .ready none))
  rwa [World.size_alloc] at this
 have hD1:W1.heap[D]? =some (.deferred (some [])):=by
  rw [←hW1,←hD]
  exact (Below.heap_alloc _ _ _ (by simp)).trans (World.alloc_heap_new w _)
 have hb1:Below w.heap.size w W1:=by
  rw [←hW1]
  exact ((Below.refl _ w).alloc (Nat.le_refl _) _).alloc (by simp) _
 refine ⟨L,[{ target:=.collected D,args:= #[] }],W1,{ target:=.fn (.func gf) lb,args:= #[.func (.yield L) #[] #[]] },W1,gf,#[.func (.yield L) #[] #[]]++lb,W1,?_,?_,?_,?_,fun _=>h1,?_⟩
 ·rw [←hW1,hrc,←hL,←hD];exact run_enterLoop_outer _ _ _ _ _
 ·simp only [resolve,hg]
  simp [go_sem]
 ·intro f' hf'
  trivial
 ·simp [invoke,go_sem,eg]
 refine (hseq L D (rc .ready none) (fun c=>rc .done (some c)) W1 hb1 hsz hD.symm hL.symm hL1 hD1 ?_).mono ?_
 ·
  intro m vs W hI hl
  have hlt:L<W.heap.size:=(Array.getElem?_eq_some_iff.1 hl).1
  have hy:=run_yield (P:=P) (args:=vs) hl (by rw [hrc];exact hps _ _ hI)
  rw [hrc] at hy
  refine ⟨fn,_,assign,body,hy,roundIn_of_wpIn hfn (hassign m vs W _ hI hlt ?_)⟩
  intro a' Wa hAx hLa
  have hla:=hLa.trans hl
  have hlta:L<Wa.heap.size:=(Array.getElem?_eq_some_iff.1 hla).1
  refine ⟨_,run_beginRound hla (by rw [hrc]),?_⟩
  obtain ⟨Wb,hWb⟩: ∃Wb,Wa.putObj L (.loop { rc .ready none with state:=.busy })=Wb:=⟨_,rfl⟩
  rw [hWb]
  have hlb:Wb.heap[L]? =some (.loop { rc .ready none with state:=.busy }):=by rw [←hWb];exact World.putObj_heap_same hlta
  have hAb:A vs W a' Wb:=by rw [←hWb];exact hA _ _ _ _ _ hAx (But.put _ _ _)
  refine wpIn_mono (hbody m vs W a' Wb _ hAb hlb) ?_
  have fin: ∀(j:Option Code) (W3:World),W3.heap[L]? =some (.loop { rc .ready none with state:=.busy })→ ∃W4,(Instr.endRound L j).run P W3=.ok (.bool j.isNone) W4∧But L W3 W4∧W4.heap[L]? =some (.loop (rc (if j.isNone then .ready else .done) j)):=by
   intro j W3 hl3
   have he:=run_endRound (P:=P) j hl3
   refine ⟨_,?_,But.put L W3 (.loop (rc (if j.isNone then .ready else .done) j)),World.putObj_heap_same (Array.getElem?_eq_some_iff.1 hl3).1⟩
   rw [hrc] at he ⊢
   exact he
  rintro e a3 W3 ⟨hl3,hp⟩
  cases e with
  |normal=>
   obtain ⟨W4,hr,h4,hl4⟩:=fin none W3 hl3
   exact ⟨_,_,hr,.inl ⟨rfl,hO _ _ _ _ hp h4,hl4⟩⟩
  |ret=>
   obtain ⟨W4,hr,h4,hl4⟩:=fin (some .ret) W3 hl3
   exact ⟨_,_,hr,.inr ⟨rfl,.ret,hOx _ _ _ _ _ hp h4,hl4⟩⟩
  |exit id=>
   obtain ⟨W4,hr,h4,hl4⟩:=fin (some (.exit id)) W3 hl3
   exact ⟨_,_,hr,.inr ⟨rfl,.exit id,hOx _ _ _ _ _ hp h4,hl4⟩⟩
  |goto t=>
   obtain ⟨W4,hr,h4,hl4⟩:=fin (some (.goto t)) W3 hl3
   exact ⟨_,_,hr,.inr ⟨rfl,.goto t,hOx _ _ _ _ _ hp h4,hl4⟩⟩
  |panic ch=>exact hp.elim
  |outgrown=>exact hp.elim
 ·rintro e W2 ⟨⟨v,rfl⟩,hd,⟨hl,hp⟩|⟨c,hl,hp⟩⟩
  ·have he:=run_endLoop (P:=P) hl (by rw [hrc];simp [rec'])
   have hlt:L<W2.heap.size:=(Array.getElem?_eq_some_iff.1 hl).1
   refine ⟨none,_,by rw [hrc] at he;exact he,hdone D L W2 _ hD.symm hL.symm hlt hp (But.put _ _ _) ((World.putObj_heap_other (by omega)).trans hd)⟩
  ·have he:=run_endLoop (P:=P) hl (by rw [hrc];simp [rec'])
   have hlt:L<W2.heap.size:=(Array.getElem?_eq_some_iff.1 hl).1
   refine ⟨some c,_,by rw [hrc] at he;exact he,hstop D L c W2 _ hD.symm hL.symm hlt hp (But.put _ _ _) ((World.putObj_heap_other (by omega)).trans hd)⟩
end Go.Proofs.YtecgecpgmpmkoaaGreat
namespace Go.Proofs.YtecgecpgmpmkoaaGreat
open Go.RowKit
section
variable {F:Fence} {n:Nat} {P:Program} {ops:Array Oper} {md:Region.Mode} {C:World→Prop}
theorem wpIn_of_quietR {o:Oper} {a:Act} {K:Act→Prop} {K':Act→World→Prop} {Q':Exit→Act→World→Prop} {w:World} (hnd: ∀c,o.op≠ .defer c) (hw:C w) (h: ∀a w',C w'→K a→K' a w')
  (ha:o.askedIn F P a C) (hh:o.quietIn F n P a C K):o.wpIn F n P a w K' Q':=by
 obtain ⟨v,h1,h2⟩:=hh
 have h3:=h1 w hw
 unfold Oper.quietAtIn at h3
 unfold Oper.wpIn
 refine ⟨ha w hw,?_⟩
 rw [Oper.semAt_plain F _ o hnd]
 generalize (execOp a.eval o).run P w=r at*
 cases r with
 |ok x w'=>
  cases x<;>simp only [Oper.quietUponIn] at h3<;>simp only [Oper.uponIn]
  case value u=>
   obtain ⟨e1,e2⟩:=h3
   rw [e1,e2]
   exact h _ _ hw h2
  case skip=>
   obtain ⟨e1,e2⟩:=h3
   rw [e1,←e2]
   exact h _ _ hw h2
  case enter f args=>
   obtain ⟨e1,hd,hc⟩:=h3
   rw [e1]
   exact ⟨hd,hc.mono fun e w'' ⟨he,hw''⟩=>by subst he;exact h _ _ hw'' h2⟩
 |halt x w'=>simp only [Oper.quietUponIn] at h3
theorem wpOpIn_of_qOpInR {i:Nat} {a:Act} {K:Act→Prop} {K':Act→World→Prop} {Q':Exit→Act→World→Prop} {w:World} (hnd: ∀o,ops[i]? =some o→ ∀c,o.op≠ .defer c) (hC:C w) (h: ∀a w',C w'→K a→K' a w')
  (hh:qOpIn F n P ops C i K a):wpOpIn F n P ops Q' i K' a w:=by
 unfold qOpIn at hh
 unfold wpOpIn
 split
 ·rename_i ho;simp only [ho] at hh;exact h _ _ hC hh
 ·rename_i o ho
  simp only [ho] at hh
  obtain ⟨ha,hh⟩:=hh
  split
  ·rename_i hw;simp only [hw,if_true] at hh;exact wpIn_of_quietR (hnd o ho) hC h ha hh
  ·rename_i hw;simp only [hw] at hh;exact ⟨ha w hC,h _ _ hC hh⟩
theorem wpAnyIn_of_quietR {Q:Act→Prop} {Q':Exit→Act→World→Prop} (hnd: ∀(i:Nat) o,ops[i]? =some o→ ∀c,o.op≠ .defer c) (hQ: ∀a w,C w→Q a→Q' .normal a w): ∀(fuel:Nat) (listed:Array Bool) (a:Act) (w:World),C w→
  wpAnyQIn F n P md ops C Q fuel listed a→wpAnyIn F n P md ops Q' fuel listed a w
 |0,_,_,_,hw,h=>⟨h.1,hQ _ _ hw h.2⟩
 |fuel+1,_,_,_,hw,h=>⟨fun h0=>hQ _ _ hw (h.1 h0),fun i hi=>wpOpIn_of_qOpInR (hnd i) hw (fun a' w' hw'=>wpAnyIn_of_quietR hnd hQ fuel _ a' w' hw') (h.2 i hi)⟩
def noDefer (l:List Oper):Bool:=l.all fun o=>match o.op with| .defer _=>false|_=>true
theorem noDefer_spec {l:List Oper} (h:noDefer l=true) (i:Nat) (o:Oper) (ho:l.toArray[i]? =some o): ∀c,o.op≠ .defer c:=by
 intro c hc
 have hm:o ∈ l:=by
  have:=Array.mem_of_getElem? ho
  simpa using this
 have:=List.all_eq_true.1 h o hm
 rw [hc] at this
 cases this
theorem region_quietR {id:Nat} {Q:Exit→Act→World→Prop} {a:Act} {w:World} {l:List Oper} (hnd:noDefer l=true) (hm:P.follows .mixedOrders=true) (hB:Region.lexB .any l.toArray=true)
  (h:wpQuietIn F n P l.toArray (fun w'=> ∃n,w'=w.drewN n) (fun a'=> ∀w',(∃n,w'=w.drewN n)→Q .normal a' w') l a):(Code.region id l.toArray true).wpIn F n P Q a w:=by
 simp only [Region.lexB,Bool.and_eq_true] at hB
 refine wpIn_region_any hm (wpAnyIn_of_quietR (C:=fun w'=> ∃n,w'=w.drewN n) (Q:=fun a'=> ∀w',(∃n,w'=w.drewN n)→Q .normal a' w') (noDefer_spec hnd) (fun _ w' hw' h=>h w' hw') _ _ _ _ ⟨1,rfl⟩ ?_)
 have:=wpAnyQIn_lex (F:=F) (n:=n) (C:=fun w'=> ∃n,w'=w.drewN n) (md:=.any) hB.1 l 0 (Array.replicate l.toArray.size false) a (by simp) (by simpa using hB.2) h
 simpa using this
end
end Go.Proofs.YtecgecpgmpmkoaaGreat
namespace Go.Proofs.YtecgecpgmpmkoaaGreat
open Go.RowKit
theorem opR {l n:Nat} {P:Program} {ops:Array Oper} {Q:Exit→Act→World→Prop} {i:Nat} {K:Act→World→Prop} {a:Act} {w:World} (hnd: ∀o,ops[i]? =some o→ ∀c,o.op≠ .defer c) (hout: ¬LetsOut Q) (h:wpOp P ops Q i K a w):wpOpIn (Fence.wide.inRound l) n P ops Q i K a w:=by
 unfold wpOp at h
 unfold wpOpIn
 split
 ·rename_i ho
  simp only [ho] at h
  exact h
 ·rename_i o ho
  simp only [ho] at h
  split
  ·rename_i hw
   simp only [hw,if_true] at h
   rcases h with h|⟨_,h⟩
   ·unfold Oper.wpIn
    refine ⟨fun f _=>trivial,?_⟩
    rw [Oper.semAt_plain (Fence.wide.inRound l) _ o (hnd o ho)]
    unfold Oper.wp at h
    generalize (execOp a.eval o).run P w=r at*
    cases r with
    |ok x w'=>
     cases x<;>simp only [Oper.upon] at h<;>simp only [Oper.uponIn]
     case value=>exact h
     case skip=>exact h
     case defer=>exact h
     case enter=>
      refine ⟨fun e=>(by cases e),CallsIn.inRound l (CallsIn.mono (callsIn_wide.2 h) ?_)⟩
      intro e w2 he
      cases e<;>exact he
     case row=>exact ⟨fun e=>(by cases e),fun c cs _=>let ⟨v,w2,r,s⟩:=h c cs;⟨v,w2,r,stepsIn_wide.2 s⟩⟩
    |halt x w'=>cases x<;>simp only [Oper.upon] at h<;>simp only [Oper.uponIn]<;>exact h
   ·exact absurd h hout
  ·rename_i hw
   simp only [hw] at h
   exact ⟨fun f _=>trivial,h⟩
theorem anyR {l n:Nat} {P:Program} {md:Region.Mode} {ops:Array Oper} {Q:Exit→Act→World→Prop} (hnd: ∀(i:Nat) o,ops[i]? =some o→ ∀c,o.op≠ .defer c) (hout: ¬LetsOut Q): ∀(fuel:Nat) (listed:Array Bool) (a:Act) (w:World),wpAny P md ops Q fuel listed a w→wpAnyIn (Fence.wide.inRound l) n P md ops Q fuel listed a w
 |0,_,_,_,h=>h
 |fuel+1,_,_,_,h=>⟨h.1,fun i hi=>opR (hnd i) hout (wpOp_mono (fun a' w'=>anyR hnd hout fuel _ a' w') (h.2 i hi))⟩
theorem region_heldR {l n:Nat} {P:Program} {id:Nat} {ops:List Oper} {Q:Exit→Act→World→Prop} {S:World→Prop} {a:Act} {w:World} (hnd:noDefer ops=true) (hout: ¬LetsOut Q) (hm:P.follows .mixedOrders=true) (hS:S w.drew)
  (h:S w.drew→wpAnyH P .any ops.toArray Q S ops.toArray.size (Array.replicate ops.toArray.size false) a w.drew):(Code.region id ops.toArray true).wpIn (Fence.wide.inRound l) n P Q a w:=
 wpIn_region_any hm (anyR (noDefer_spec hnd) hout _ _ _ _ (wpAny_of_held _ _ _ _ (h hS)))
end Go.Proofs.YtecgecpgmpmkoaaGreat
namespace Go.Proofs.YtecgecpgmpmkoaaGreat
open Go.ChangeShapes Go.WideShapes Go.ChangeAt Go.RowKit
set_option linter.unusedVariables false
set_option linter.unusedSimpArgs false
attribute [local go_sem] Oper.semAt_some
set_option maxRecDepth 100000 in
set_option maxHeartbeats 8000000 in
theorem drive_mut (W:World) (b0 sb:Nat) (p:Pl) (A:Ab) (R:Rv) (h:SimR W b0 sb p A R) (ho:AOk2 p A) (hpl:PlOk p) (n L:Nat) (lo:Obj) (hl:W.heap[L]? =some lo) (hL:Av p R sb L)
  (J:Nat→Ab→Rv→World→Prop) (Xs:Nat→Ab→World→Prop) (hJ0:J 0 A R W)
  (hJb: ∀(q:Nat) (C:Ab) (R1:Rv) (w w':World),J q C R1 w→Below w.heap.size w w'→J q C R1 w')
  (hJk: ∀(q:Nat) (B C:Ab) (R1 R2:Rv) (w w':World) (x:Se) (c:Int),J q B R1 w→StepsR p A q B→StepR p B x c C→SimR w b0 sb p B R1→SimR w' b0 sb p C R2→Kq (Mu sb R1) w w'→(∀r,r<w.heap.size→Av p R1 sb r→Av p R2 sb r)→J q C R2 w')
  (hY: ∀(m q:Nat) (B C:Ab) (R2:Rv) (w:World) (x:Se),StepsR p A q B→StepR p B x 0 C→SimR w b0 sb p C R2∧AOk2 p C∧J q C R2 w∧w.heap[L]? =some lo∧Av p R2 sb L→YieldAt Fence.wide m Tryz.prog L #[.int .i64 (q:Int),.agg #[.int .u64 x.t,.int .i64 x.s,.int .u64 x.q,.int .i64 x.d,.int .i64 x.k,.int .i64 x.v]] w fun e w'=>(e=.returned (.bool true)∧w'.heap[L]? =some lo∧SimR w' b0 sb p C R2∧J (q+1) C R2 w')∨(e=.returned (.bool false)∧Xs q C w')):
  CallsIn Fence.wide n Tryz.prog 90 #[.func (.func 22) #[.pointer (some ⟨sb,0,none⟩)] #[],.func (.yield L) #[] #[]] W fun e W'=>(∃v,e=.returned v)∧((∃(q:Nat) (C:Ab) (R':Rv),(∃B x c,StepsR p A q B∧StepR p B x c C∧c≠0)∧SimR W' b0 sb p C R'∧AOk2 p C∧J q C R' W'∧W'.heap[L]? =some lo∧Av p R' sb L)∨ ∃(q:Nat) (B:Ab) (x:Se) (C:Ab),StepsR p A q B∧StepR p B x 0 C∧Xs q C W'):=by
 refine callsIn_of_wp Tryz.func90 rfl trivial ?_ rfl
 simp only [Tryz.ntmps90,List.size_toArray,List.length_cons,List.length_nil,Nat.reduceAdd,Nat.reduceSub,Array.replicate_succ,Array.replicate_zero,List.push_toArray,List.append_toArray,List.nil_append,List.cons_append]
 gi_wp2
 have HA:Hid (SimR W b0 sb p A R∧AOk2 p A∧PlOk p∧W.heap[L]? =some lo∧Av p R sb L∧J 0 A R W):=⟨h,ho,hpl,hl,hL,hJ0⟩
 have HH:Hid ((∀(q:Nat) (C:Ab) (R1:Rv) (w w':World),J q C R1 w→Below w.heap.size w w'→J q C R1 w')∧ ∀(q:Nat) (B C:Ab) (R1 R2:Rv) (w w':World) (x:Se) (c:Int),J q B R1 w→StepsR p A q B→StepR p B x c C→SimR w b0 sb p B R1→SimR w' b0 sb p C R2→Kq (Mu sb R1) w w'→(∀r,r<w.heap.size→Av p R1 sb r→Av p R2 sb r)→J q C R2 w'):=⟨hJb,hJk⟩
 clear h ho hl hL hJ0 hJb hJk
 gi_loopw [4] (fun v4 wr=> ∃(q:Nat) (B:Ab) (R1:Rv),v4=.int .i64 q∧q≤5000∧StepsR p A q B∧SimR wr b0 sb p B R1∧AOk2 p B∧J q B R1 wr∧wr.heap[L]? =some lo∧Av p R1 sb L) (fun v4 _=>5000-(intOf v4).toNat)
 case atStart=>exact ⟨0,A,R,rfl,by omega,.zero,HA.out.1,HA.out.2.1,HA.out.2.2.2.2.2,HA.out.2.2.2.1,HA.out.2.2.2.2.1⟩
 case round=>
  obtain ⟨q,B,R1,rfl,hq,hst,hsim,hok,hj,hlq,hav⟩:=hrel
  have hS:CallsIn Fence.wide (n-1) Tryz.prog 22 #[.pointer (some ⟨sb,0,none⟩)] wr fun r W'=> ∃(C:Ab) (R':Rv) (x:Se) (c:Int),r=.returned (.tuple #[.agg #[.int .u64 x.t,.int .i64 x.s,.int .u64 x.q,.int .i64 x.d,.int .i64 x.k,.int .i64 x.v],.int .i64 c])∧StepR p B x c C∧SimR W' b0 sb p C R'∧AOk2 p C∧Kq (Mu sb R1) wr W'∧(∀k,k<wr.heap.size→Mu sb R' k→Mu sb R1 k)∧ ∀r,r<wr.heap.size→Av p R1 sb r→Av p R' sb r:=callsIn_wide.2 (step_any wr b0 sb p B R1 hsim hok hpl)
  have hLs:L<wr.heap.size:=(Array.getElem?_eq_some_iff.1 hlq).1
  gi_wp2_with (refine ⟨trivial,(fun h=>by cases h),?_⟩;gi_at_call 22;(with_reducible refine hS.mono ?_);rintro e w1 ⟨C,R2,x,c,rfl,hstep,hsim2,hok2,hkq2,hmu2,hav2⟩;have hj1:=HH.out.2 q B C R1 R2 wr w1 x c hj hst hstep hsim hsim2 hkq2 hav2;have hL1:=(hkq2.block L hLs hav.1).trans hlq;have haL:=hav2 L hLs hav;have hal:=(Below.refl w1.heap.size w1).alloc (Nat.le_refl _) (.cells #[.int .u64 x.t,.int .i64 x.s,.int .u64 x.q,.int .i64 x.d,.int .i64 x.k,.int .i64 x.v] 54);obtain ⟨bb,hbb⟩: ∃bb,(c !=0)=bb:=⟨_,rfl⟩;cases bb)
  rotate_left
  ·refine ⟨(fun _ h=>by cases h),?_⟩
   gi_wp2
   refine bodyPost_ret (results_none rfl _ _ _) rfl ?_
   exact ⟨⟨_,rfl⟩,.inl ⟨q,C,R2,⟨B,x,c,hst,hstep,by simpa using hbb⟩,hsim2.below hal,hok2,HH.out.1 _ _ _ _ _ hj1 hal,(hal.block L (Nat.lt_of_lt_of_le hLs hkq2.size)).trans hL1,haL⟩⟩
  ·obtain rfl:c=0:=by simpa using hbb
   obtain ⟨fn,tm,asg,bd,hy,hRd⟩:=hY (n-1) q B C R2 (w1.alloc (.cells #[.int .u64 x.t,.int .i64 x.s,.int .u64 x.q,.int .i64 x.d,.int .i64 x.k,.int .i64 x.v] 54)) x hst hstep ⟨hsim2.below hal,hok2,HH.out.1 _ _ _ _ _ hj1 hal,(hal.block L (Nat.lt_of_lt_of_le hLs hkq2.size)).trans hL1,haL⟩
   have hst2:=hst.more hstep
   have hm:=hst2.m
   have hm2:=hok2.m
   have HSS:Hid (StepsR p A q B∧StepR p B x 0 C):=⟨hst,hstep⟩
   clear hbb
   rw [hy]
   refine ⟨(fun h=>by cases h),?_⟩
   refine hRd.mono ?_
   rintro e' w2 (⟨rfl,hl2,hs2,hj2⟩|⟨rfl,hx2⟩)
   ·have HN:Hid (StepsR p A (q+1) C∧SimR w2 b0 sb p C R2∧AOk2 p C∧J (q+1) C R2 w2∧w2.heap[L]? =some lo∧Av p R2 sb L):=⟨hst2,hs2,hok2,hj2,hl2,haL⟩
    have hq1:(q:Int)+1<9223372036854775808:=by omega
    have hq2:q+1≤5000:=by omega
    clear hy hRd hst2 hm hm2 hstep hsim2 hok2 hkq2 hmu2 hav2 hL1 hal hj1 haL hl2 hs2 hj2 hj hlq hav hsim hok hS hst
    gi_wp2
    exact ⟨⟨q+1,C,R2,by simp,hq2,HN.out⟩,by simp [intOf];omega⟩
   ·clear hy hRd hst2 hm hm2 hstep hsim2 hok2 hkq2 hmu2 hav2 hL1 hal hj1 haL hj hlq hav hsim hok hS hst
    gi_wp2
    refine bodyPost_ret (results_none rfl _ _ _) rfl ?_
    exact ⟨⟨_,rfl⟩,.inr ⟨q,B,x,C,HSS.out.1,HSS.out.2,hx2⟩⟩
set_option maxRecDepth 100000 in
set_option maxHeartbeats 2000000 in
theorem events1_mut (W:World) (b0 sb:Nat) (p:Pl) (A:Ab) (R:Rv) (h:SimR W b0 sb p A R) (ho:AOk2 p A) (hpl:PlOk p) (n L:Nat) (lo:Obj) (hl:W.heap[L]? =some lo) (hL:Av p R sb L)
  (J:Nat→Ab→Rv→World→Prop) (Xs:Nat→Ab→World→Prop) (hJ0:J 0 A R W)
  (hJb: ∀(q:Nat) (C:Ab) (R1:Rv) (w w':World),J q C R1 w→Below w.heap.size w w'→J q C R1 w')
  (hJk: ∀(q:Nat) (B C:Ab) (R1 R2:Rv) (w w':World) (x:Se) (c:Int),J q B R1 w→StepsR p A q B→StepR p B x c C→SimR w b0 sb p B R1→SimR w' b0 sb p C R2→Kq (Mu sb R1) w w'→(∀r,r<w.heap.size→Av p R1 sb r→Av p R2 sb r)→J q C R2 w')
  (hY: ∀(m q:Nat) (B C:Ab) (R2:Rv) (w:World) (x:Se),StepsR p A q B→StepR p B x 0 C→SimR w b0 sb p C R2∧AOk2 p C∧J q C R2 w∧w.heap[L]? =some lo∧Av p R2 sb L→YieldAt Fence.wide m Tryz.prog L #[.int .i64 (q:Int),.agg #[.int .u64 x.t,.int .i64 x.s,.int .u64 x.q,.int .i64 x.d,.int .i64 x.k,.int .i64 x.v]] w fun e w'=>(e=.returned (.bool true)∧w'.heap[L]? =some lo∧SimR w' b0 sb p C R2∧J (q+1) C R2 w')∨(e=.returned (.bool false)∧Xs q C w')) (bx:Nat) (hbx:W.heap[bx]? =some (.cells #[.pointer (some ⟨sb,0,none⟩)] 50 (0,0))):
  CallsIn Fence.wide n Tryz.prog 89 (#[.func (.yield L) #[] #[]]++ #[.pointer (some ⟨bx,0,none⟩)]) W fun e W'=>(∃v,e=.returned v)∧((∃(q:Nat) (C:Ab) (R':Rv),(∃B x c,StepsR p A q B∧StepR p B x c C∧c≠0)∧SimR W' b0 sb p C R'∧AOk2 p C∧J q C R' W'∧W'.heap[L]? =some lo∧Av p R' sb L)∨ ∃(q:Nat) (B:Ab) (x:Se) (C:Ab),StepsR p A q B∧StepR p B x 0 C∧Xs q C W'):=by
 have HD:=drive_mut W b0 sb p A R h ho hpl (n-1) L lo hl hL J Xs hJ0 hJb hJk hY
 have hc:W.cell? ⟨bx,0,none⟩=some (.pointer (some ⟨sb,0,none⟩)):=cell_in hbx rfl
 clear h ho hpl hl hL hY hbx hJ0 hJb hJk
 refine callsIn_of_wp Tryz.func89 rfl trivial ?_ rfl
 simp only [Tryz.ntmps89,List.size_toArray,List.length_cons,List.length_nil,Nat.reduceAdd,Nat.reduceSub,Array.replicate_succ,Array.replicate_zero,List.push_toArray,List.append_toArray,List.nil_append,List.cons_append]
 gi_wp2_with (refine ⟨trivial,(fun h=>by cases h),?_⟩;gi_at_call 90;(with_reducible refine HD.mono ?_);rintro e' w1 ⟨⟨v,rfl⟩,hfin⟩)
 go_end0
 exact ⟨⟨_,rfl⟩,hfin⟩
end Go.Proofs.YtecgecpgmpmkoaaGreat
