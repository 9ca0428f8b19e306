import Derived.Test.YtecgecpgmpmkoaaGreatHRN13
import Derived.Test.YtecgecpgmpmkoaaGreatHRN16
namespace Go.Proofs.YtecgecpgmpmkoaaGreat
open Go.ChangeShapes Go.WideShapes Go.ChangeAt Go.RowKit
set_option linter.unusedVariables false
set_option linter.unusedSimpArgs false
attribute [local go_sem] Oper.semAt_some
theorem events_any (sb:Nat) (w:World):Calls Tryz.prog 45 #[.pointer (some ⟨sb,0,none⟩)] w fun e w'=>e=.returned (.func (.func 89) #[] #[.pointer (some ⟨w.heap.size,0,none⟩)])∧w'=w.alloc (.cells #[.pointer (some ⟨sb,0,none⟩)] 50):=by
 go_enter Tryz.func45,Tryz.ntmps45
 go_wp2
 go_ret
 exact ⟨rfl,rfl⟩
set_option maxRecDepth 100000 in
set_option maxHeartbeats 2000000 in
theorem events1_in (W:World) (b0 sb:Nat) (p:Pl) (A:Ab) (R:Rv) (h:SimR W b0 sb p A R) (ho:AOk2 p A) (hpl:PlOk p) (n L:Nat) (rc:Loop) (hl:W.heap[L]? =some (.loop rc)) (hL: ¬Mu sb R L)
  (hY: ∀(m:Nat) (vs:Array Value) (W:World),vs.size=2→W.heap[L]? =some (.loop rc)→YieldAt Fence.wide m Tryz.prog L vs W fun e W'=>e=.returned (.bool true)∧(W'.os=W.os∧W'.tape=W.tape∧W'.output=W.output)∧W'.heap.size=W.heap.size∧(∀k:Nat,W'.heap[k]? =W.heap[k]?))
  (bx:Nat) (hbx:W.heap[bx]? =some (.cells #[.pointer (some ⟨sb,0,none⟩)] 50 (0,0))):
  CallsIn Fence.wide n Tryz.prog 89 (#[.func (.yield L) #[] #[]]++ #[.pointer (some ⟨bx,0,none⟩)]) W fun e W'=>(∃v,e=.returned v)∧ ∃(C:Ab) (R':Rv),EndR p A C∧SimR W' b0 sb p C R'∧AOk2 p C∧Kq (Mu sb R) W W'∧(∀k,k<W.heap.size→Mu sb R' k→Mu sb R k)∧ ∀r,r<W.heap.size→Av p R sb r→Av p R' sb r:=by
 have HD:=drive_in W b0 sb p A R h ho hpl (n-1) L rc hl hL hY
 have hc:W.cell? ⟨bx,0,none⟩=some (.pointer (some ⟨sb,0,none⟩)):=cell_in hbx rfl
 clear h ho hpl hl hL hY hbx
 refine callsIn_of_wp Tryz.func89 rfl trivial ?_ rfl
 simp only [Tryz.ntmps89,List.size_toArray,List.length_cons,List.length_nil,Nat.reduceAdd,Nat.reduceSub,Array.replicate_succ,Array.replicate_zero,List.push_toArray,List.append_toArray,List.nil_append,List.cons_append]
 gi_wp2_with (refine ⟨trivial,(fun h=>by cases h),?_⟩;gi_at_call 90;(with_reducible refine HD.mono ?_);rintro e' w1 ⟨⟨v,rfl⟩,hfin⟩)
 go_end0
 exact ⟨⟨_,rfl⟩,hfin⟩
theorem EndR.some {p:Pl} {A C:Ab} (h:EndR p A C) (ha:A.f=0):C.f≠0→ ∃x,C.M x:=fun hc=>by
 obtain ⟨n,B,x,c,h1,h2,h3⟩:=h
 have hf: ∀ {n:Nat} {B:Ab},StepsR p A n B→B.f=0:=fun hs=>by
  induction hs with
  |zero=>exact ha
  |more k1 k2 ih=>
   rcases k2 with ⟨_,e,_⟩|⟨_,y,_,⟨e,e',_⟩|⟨_,_,_,rfl⟩⟩
   ·cases e
   ·exact absurd e'.symm e
   ·exact ih
 rcases h2 with ⟨_,_,_,rfl⟩|⟨_,y,hy,⟨_,_,_,rfl⟩|⟨_,e,_⟩⟩
 ·exact absurd (hf h1) hc
 ·exact ⟨y,hy.1⟩
 ·exact absurd e h3
theorem Kq.put {S:Nat→Prop} (W:World) (r:Nat) (o:Obj) (h:S r):Kq S W (W.putObj r o):=⟨rfl,rfl,rfl,by simp,fun k _ hs=>World.putObj_heap_other fun e=>hs (by rw [e];exact h)⟩
theorem below_put {B:Nat} {w W:World} (h:Below B w W) (r:Nat) (o:Obj) (hr:B≤r):Below B w (W.putObj r o):=⟨h.os,h.tape,h.output,by have:=h.size;simp;omega,fun k hk=>(World.putObj_heap_other (by omega)).trans (h.block k hk)⟩
theorem below_kq {B:Nat} {S:Nat→Prop} {w W W':World} (h:Below B w W) (hk:Kq S W W') (hs: ∀k,S k→B≤k) (hB:B≤W.heap.size):Below B w W':=⟨hk.os.trans h.os,hk.tape.trans h.tape,hk.output.trans h.output,Nat.le_trans h.size hk.size,fun k hlt=>(hk.block k (by omega) (fun e=>by have:=hs k e;omega)).trans (h.block k hlt)⟩
set_option maxRecDepth 100000 in
set_option maxHeartbeats 8000000 in
theorem sqRun_bad (p:Pl) (v:PlV) (w:World) (h:PlAt w p v) (hr:RoomyL p) (c0:Int) (hc0:VC p c0) (hz:c0≠0):Calls Tryz.prog 12 #[.agg #[.int .i64 p.ki,.slice v.pp p.np v.pc,.slice v.tp p.nq v.tc,.slice v.sp p.ns v.sc,.int .u64 p.sd,.int .u64 p.lk,.int .u64 p.en,.int .i64 p.bu,.int .i64 p.fu]] w fun r w'=>r=.returned (.agg #[.int .i64 6,.int .i64 c0,.int .u64 0,.int .i64 0,.int .u64 0,.int .i64 0,.slice none 0 0,.slice none 0 0])∧Below w.heap.size w w':=by
 obtain ⟨wa,hwa⟩: ∃wa,w.alloc (.cells #[.int .i64 p.ki,.slice v.pp p.np v.pc,.slice v.tp p.nq v.tc,.slice v.sp p.ns v.sc,.int .u64 p.sd,.int .u64 p.lk,.int .u64 p.en,.int .i64 p.bu,.int .i64 p.fu] 27)=wa:=⟨_,rfl⟩
 obtain ⟨ha0,haox,hasz⟩:=boxed _ _ _ hwa
 obtain ⟨wb,hwb⟩: ∃wb,wa.alloc (.cells #[.int .i64 0,.int .i64 0,.int .u64 0,.int .i64 0,.int .u64 0,.int .i64 0,.slice none 0 0,.slice none 0 0] 37)=wb:=⟨_,rfl⟩
 obtain ⟨hb0',hbox,hsz⟩:=boxed _ _ _ hwb
 have hb0:Below w.heap.size w wb:=ha0.trans (hb0'.mono ha0.size)
 have HW:Hid ((w.alloc (.cells #[.int .i64 p.ki,.slice v.pp p.np v.pc,.slice v.tp p.nq v.tc,.slice v.sp p.ns v.sc,.int .u64 p.sd,.int .u64 p.lk,.int .u64 p.en,.int .i64 p.bu,.int .i64 p.fu] 27)).alloc (.cells #[.int .i64 0,.int .i64 0,.int .u64 0,.int .i64 0,.int .u64 0,.int .i64 0,.slice none 0 0,.slice none 0 0] 37)=wb):=(by rw [hwa,hwb]:(w.alloc (.cells #[.int .i64 p.ki,.slice v.pp p.np v.pc,.slice v.tp p.nq v.tc,.slice v.sp p.ns v.sc,.int .u64 p.sd,.int .u64 p.lk,.int .u64 p.en,.int .i64 p.bu,.int .i64 p.fu] 27)).alloc (.cells #[.int .i64 0,.int .i64 0,.int .u64 0,.int .i64 0,.int .u64 0,.int .i64 0,.slice none 0 0,.slice none 0 0] 37)=wb)
 have hpb:=(hb0'.block _ (lt_of_block haox)).trans haox
 have HBG:Calls Tryz.prog 44 #[.agg #[.int .i64 p.ki,.slice v.pp p.np v.pc,.slice v.tp p.nq v.tc,.slice v.sp p.ns v.sc,.int .u64 p.sd,.int .u64 p.lk,.int .u64 p.en,.int .i64 p.bu,.int .i64 p.fu]] wb fun e w'=>e=.returned (.tuple #[.pointer none,.int .i64 c0])∧Below wb.heap.size wb w':=by
  refine (begin_any p v wb (h.below hb0) hr c0 hc0).mono ?_
  rintro e w' (⟨_,h9⟩|⟨h9,_⟩)
  ·exact h9
  ·exact absurd h9 hz
 rw [hasz] at hbox
 have HB:Hid (Below w.heap.size w wb∧wb.heap[w.heap.size+1]? =some (.cells #[.int .i64 0,.int .i64 0,.int .u64 0,.int .i64 0,.int .u64 0,.int .i64 0,.slice none 0 0,.slice none 0 0] 37 (0,0))∧wb.heap.size=w.heap.size+2):=⟨hb0,hbox,by omega⟩
 have g0:wb.cell? ⟨w.heap.size,0,none⟩=some (.int .i64 p.ki):=cell_in hpb rfl
 have g1:wb.cell? ⟨w.heap.size,1,none⟩=some (.slice v.pp p.np v.pc):=cell_in hpb rfl
 have g2:wb.cell? ⟨w.heap.size,2,none⟩=some (.slice v.tp p.nq v.tc):=cell_in hpb rfl
 have g3:wb.cell? ⟨w.heap.size,3,none⟩=some (.slice v.sp p.ns v.sc):=cell_in hpb rfl
 have g4:wb.cell? ⟨w.heap.size,4,none⟩=some (.int .u64 p.sd):=cell_in hpb rfl
 have g5:wb.cell? ⟨w.heap.size,5,none⟩=some (.int .u64 p.lk):=cell_in hpb rfl
 have g6:wb.cell? ⟨w.heap.size,6,none⟩=some (.int .u64 p.en):=cell_in hpb rfl
 have g7:wb.cell? ⟨w.heap.size,7,none⟩=some (.int .i64 p.bu):=cell_in hpb rfl
 have g8:wb.cell? ⟨w.heap.size,8,none⟩=some (.int .i64 p.fu):=cell_in hpb rfl
 rw [←HW.out] at g0 g1 g2 g3 g4 g5 g6 g7 g8
 have q0:(c0 !=0)=true:=by simpa using hz
 have q1:(c0==0)=false:=by simpa using hz
 clear hwa ha0 haox hasz hwb hb0' hbox hsz hb0 hpb h hr hc0 hz
 go_enter Tryz.func12,Tryz.ntmps12
 go_wp2_with (go_at_call 44;rw [HW.out];(with_reducible refine HBG.mono ?_);rintro e w1 ⟨rfl,hb1⟩;have hr1:=(hb1.block _ (lt_of_block HB.out.2.1)).trans HB.out.2.1;have hfr:=(fun k9=>frz hr1 k9);have l0:w1.cell? ⟨w.heap.size+1,0,none⟩=some (.int .i64 0):=cell_in hr1 rfl;have l1:w1.cell? ⟨w.heap.size+1,1,none⟩=some (.int .i64 0):=cell_in hr1 rfl;have l2:w1.cell? ⟨w.heap.size+1,2,none⟩=some (.int .u64 0):=cell_in hr1 rfl;have l3:w1.cell? ⟨w.heap.size+1,3,none⟩=some (.int .i64 0):=cell_in hr1 rfl;have l4:w1.cell? ⟨w.heap.size+1,4,none⟩=some (.int .u64 0):=cell_in hr1 rfl;have l5:w1.cell? ⟨w.heap.size+1,5,none⟩=some (.int .i64 0):=cell_in hr1 rfl;have l6:w1.cell? ⟨w.heap.size+1,6,none⟩=some (.slice none 0 0):=cell_in hr1 rfl;have l7:w1.cell? ⟨w.heap.size+1,7,none⟩=some (.slice none 0 0):=cell_in hr1 rfl)
 generalize hWF:(World.setCell (World.setCell (World.setCell (World.setCell (World.setCell (World.setCell (World.setCell (World.setCell w1 _ _) _ _) _ _) _ _) _ _) _ _) _ _) _ _)=wF
 have hres:wF.heap[w.heap.size+1]? =some (.cells #[.int .i64 6,.int .i64 c0,.int .u64 0,.int .i64 0,.int .u64 0,.int .i64 0,.slice none 0 0,.slice none 0 0] 37 (0,0)):=by
  rw [←hWF,setCell_block _ _ _ _ (setCell_block _ _ _ _ (setCell_block _ _ _ _ (setCell_block _ _ _ _ (setCell_block _ _ _ _ (setCell_block _ _ _ _ (setCell_block _ _ _ _ (setCell_block _ _ _ _ hr1)))))))]
  rfl
 have hbw:=HB.out.1.trans (hb1.mono HB.out.1.size)
 have hbF:Below w.heap.size w wF:=by
  rw [←hWF]
  exact ((((((((hbw.setCell (p:=⟨w.heap.size+1,0,none⟩) (Nat.le_succ _) _).setCell (p:=⟨w.heap.size+1,1,none⟩) (Nat.le_succ _) _).setCell (p:=⟨w.heap.size+1,2,none⟩) (Nat.le_succ _) _).setCell (p:=⟨w.heap.size+1,3,none⟩) (Nat.le_succ _) _).setCell (p:=⟨w.heap.size+1,4,none⟩) (Nat.le_succ _) _).setCell (p:=⟨w.heap.size+1,5,none⟩) (Nat.le_succ _) _).setCell (p:=⟨w.heap.size+1,6,none⟩) (Nat.le_succ _) _).setCell (p:=⟨w.heap.size+1,7,none⟩) (Nat.le_succ _) _)
 have z0:wF.cell? ⟨w.heap.size+1,0,none⟩=some (.int .i64 6):=cell_in hres rfl
 have z1:wF.cell? ⟨w.heap.size+1,1,none⟩=some (.int .i64 c0):=cell_in hres rfl
 have z2:wF.cell? ⟨w.heap.size+1,2,none⟩=some (.int .u64 0):=cell_in hres rfl
 have z3:wF.cell? ⟨w.heap.size+1,3,none⟩=some (.int .i64 0):=cell_in hres rfl
 have z4:wF.cell? ⟨w.heap.size+1,4,none⟩=some (.int .u64 0):=cell_in hres rfl
 have z5:wF.cell? ⟨w.heap.size+1,5,none⟩=some (.int .i64 0):=cell_in hres rfl
 have z6:wF.cell? ⟨w.heap.size+1,6,none⟩=some (.slice none 0 0):=cell_in hres rfl
 have z7:wF.cell? ⟨w.heap.size+1,7,none⟩=some (.slice none 0 0):=cell_in hres rfl
 refine bodyPost_ret (v:=.agg #[.int .i64 6,.int .i64 c0,.int .u64 0,.int .i64 0,.int .u64 0,.int .i64 0,.slice none 0 0,.slice none 0 0]) (by simp [results,Tryz.results12,go_sem,z0,z1,z2,z3,z4,z5,z6,z7];try rfl) rfl ?_
 exact ⟨rfl,hbF⟩
set_option maxRecDepth 100000 in
set_option maxHeartbeats 8000000 in
theorem sqRun_good (p:Pl) (v:PlV) (w:World) (h:PlAt w p v) (hr:RoomyL p) (hc0:VC p 0) (hpl:PlOk p):Calls Tryz.prog 12 #[.agg #[.int .i64 p.ki,.slice v.pp p.np v.pc,.slice v.tp p.nq v.tc,.slice v.sp p.ns v.sc,.int .u64 p.sd,.int .u64 p.lk,.int .u64 p.en,.int .i64 p.bu,.int .i64 p.fu]] w fun r w'=> ∃(C:Ab) (k cd:Int) (x:Se) (q1:Option Addr) (c1:Nat) (CC:Nat→Sa) (q3:Option Addr) (c3:Nat),EndR p (fstA p) C∧AOk2 p C∧ResK p C k cd x∧r=.returned (.agg #[.int .i64 k,.int .i64 cd,.int .u64 x.t,.int .i64 x.s,.int .u64 x.q,.int .i64 0,.slice q1 p.nq c1,.slice q3 C.m c3])∧(∃b rb,w.heap.size<b∧RsA w' b rb p C q1 CC q3 c3)∧Below w.heap.size w w':=by
 obtain ⟨wa,hwa⟩: ∃wa,w.alloc (.cells #[.int .i64 p.ki,.slice v.pp p.np v.pc,.slice v.tp p.nq v.tc,.slice v.sp p.ns v.sc,.int .u64 p.sd,.int .u64 p.lk,.int .u64 p.en,.int .i64 p.bu,.int .i64 p.fu] 27)=wa:=⟨_,rfl⟩
 obtain ⟨ha0,haox,hasz⟩:=boxed _ _ _ hwa
 obtain ⟨wb,hwb⟩: ∃wb,wa.alloc (.cells #[.int .i64 0,.int .i64 0,.int .u64 0,.int .i64 0,.int .u64 0,.int .i64 0,.slice none 0 0,.slice none 0 0] 37)=wb:=⟨_,rfl⟩
 obtain ⟨hb0',hbox,hsz⟩:=boxed _ _ _ hwb
 have hb0:Below w.heap.size w wb:=ha0.trans (hb0'.mono ha0.size)
 have HW:(w.alloc (.cells #[.int .i64 p.ki,.slice v.pp p.np v.pc,.slice v.tp p.nq v.tc,.slice v.sp p.ns v.sc,.int .u64 p.sd,.int .u64 p.lk,.int .u64 p.en,.int .i64 p.bu,.int .i64 p.fu] 27)).alloc (.cells #[.int .i64 0,.int .i64 0,.int .u64 0,.int .i64 0,.int .u64 0,.int .i64 0,.slice none 0 0,.slice none 0 0] 37)=wb:=by rw [hwa,hwb]
 have hpb:=(hb0'.block _ (lt_of_block haox)).trans haox
 have HBG:Calls Tryz.prog 44 #[.agg #[.int .i64 p.ki,.slice v.pp p.np v.pc,.slice v.tp p.nq v.tc,.slice v.sp p.ns v.sc,.int .u64 p.sd,.int .u64 p.lk,.int .u64 p.en,.int .i64 p.bu,.int .i64 p.fu]] wb fun e w'=> ∃(sb:Nat) (R:Rv),e=.returned (.tuple #[.pointer (some ⟨sb,0,none⟩),.int .i64 0])∧SimR w' wb.heap.size sb p (fstA p) R∧Below wb.heap.size wb w':=by
  refine (begin_any p v wb (h.below hb0) hr 0 hc0).mono ?_
  rintro e w' (⟨h9,_⟩|⟨_,h9⟩)
  ·exact absurd rfl h9
  ·exact h9
 have hrb:wa.heap.size=w.heap.size+1:=hasz
 rw [hrb] at hbox
 have HB:Hid (Below w.heap.size w wb∧wb.heap[w.heap.size+1]? =some (.cells #[.int .i64 0,.int .i64 0,.int .u64 0,.int .i64 0,.int .u64 0,.int .i64 0,.slice none 0 0,.slice none 0 0] 37 (0,0))∧wb.heap.size=w.heap.size+2):=⟨hb0,hbox,by omega⟩
 have g0:wb.cell? ⟨w.heap.size,0,none⟩=some (.int .i64 p.ki):=cell_in hpb rfl
 have g1:wb.cell? ⟨w.heap.size,1,none⟩=some (.slice v.pp p.np v.pc):=cell_in hpb rfl
 have g2:wb.cell? ⟨w.heap.size,2,none⟩=some (.slice v.tp p.nq v.tc):=cell_in hpb rfl
 have g3:wb.cell? ⟨w.heap.size,3,none⟩=some (.slice v.sp p.ns v.sc):=cell_in hpb rfl
 have g4:wb.cell? ⟨w.heap.size,4,none⟩=some (.int .u64 p.sd):=cell_in hpb rfl
 have g5:wb.cell? ⟨w.heap.size,5,none⟩=some (.int .u64 p.lk):=cell_in hpb rfl
 have g6:wb.cell? ⟨w.heap.size,6,none⟩=some (.int .u64 p.en):=cell_in hpb rfl
 have g7:wb.cell? ⟨w.heap.size,7,none⟩=some (.int .i64 p.bu):=cell_in hpb rfl
 have g8:wb.cell? ⟨w.heap.size,8,none⟩=some (.int .i64 p.fu):=cell_in hpb rfl
 have HH:Hid ((w.alloc (.cells #[.int .i64 p.ki,.slice v.pp p.np v.pc,.slice v.tp p.nq v.tc,.slice v.sp p.ns v.sc,.int .u64 p.sd,.int .u64 p.lk,.int .u64 p.en,.int .i64 p.bu,.int .i64 p.fu] 27)).alloc (.cells #[.int .i64 0,.int .i64 0,.int .u64 0,.int .i64 0,.int .u64 0,.int .i64 0,.slice none 0 0,.slice none 0 0] 37)=wb):=HW
 rw [←HW] at g0 g1 g2 g3 g4 g5 g6 g7 g8
 clear HW hwa ha0 haox hasz hwb hb0' hbox hsz hb0 hpb h hr hc0 hrb
 refine (callsIn_wide (n:=3)).1 ?_
 refine callsIn_of_wp_marks Tryz.func12 rfl trivial ?_ rfl
 simp only [Tryz.ntmps12,List.size_toArray,List.length_cons,List.length_nil,Nat.reduceAdd,Nat.reduceSub,Array.replicate_succ,Array.replicate_zero,List.push_toArray,List.append_toArray,List.nil_append,List.cons_append]
 gi_wp2_with (first|(refine ⟨trivial,?_⟩;gi_at_call 44;rw [HH.out];(with_reducible refine (callsIn_wide.2 HBG).mono ?_);rintro e w1 ⟨sb,R,rfl,hsim,hb1⟩)|(refine ⟨trivial,?_⟩;gi_at_call 45;(with_reducible refine (callsIn_wide.2 (events_any sb w1)).mono ?_);rintro e w2 ⟨rfl,rfl⟩))
 obtain ⟨w2,hw2⟩: ∃w2,w1.alloc (.cells #[.pointer (some ⟨sb,0,none⟩)] 50)=w2:=⟨_,rfl⟩
 obtain ⟨hb2,hbx2,hsz2⟩:=boxed _ _ _ hw2
 rw [hw2]
 obtain ⟨bx,hbx⟩: ∃bx,w1.heap.size=bx:=⟨_,rfl⟩
 rw [hbx] at hbx2 ⊢
 have hs2:=hsim.below hb2
 have hmu1:=hsim.mu
 have hbB2:Below wb.heap.size wb w2:=hb1.trans (hb2.mono hb1.size)
 have hbW2:Below w.heap.size w w2:=HB.out.1.trans (hbB2.mono HB.out.1.size)
 have hz2:=hbB2.size
 have hzb:=HB.out.2.2
 refine range_idle (n:=3) (by decide) (gf:=89) (lb:= #[.pointer (some ⟨bx,0,none⟩)]) rfl (enters_of Tryz.func89 (by kernel_rfl) rfl)
  (fun L D W=> ∃(C:Ab) (R':Rv),EndR p (fstA p) C∧SimR W wb.heap.size sb p C R'∧AOk2 p C∧Kq (Mu sb R) w2 W∧Av p R' sb L) ?seq ?done
 case seq=>
  intro L D rc W1 hB hD hL hl hd hY
  have hsW:=hs2.below hB
  have hLW:L<W1.heap.size:=(Array.getElem?_eq_some_iff.1 hl).1
  have hDW:D<W1.heap.size:=(Array.getElem?_eq_some_iff.1 hd).1
  have nL: ¬Mu sb R L:=fun e=>by have:=(hmu1 L e).2;omega
  have nD: ¬Mu sb R D:=fun e=>by have:=(hmu1 D e).2;omega
  refine (events1_in W1 wb.heap.size sb p (fstA p) R hsW (fst_ok hpl) hpl _ L rc hl nL (fun m vs W hv=>hY m vs W hv) bx ((hB.block bx (by omega)).trans hbx2)).mono ?_
  rintro e W' ⟨hv,C,R',h1,h2,h3,h4,h5,h6⟩
  exact ⟨hv,(h4.block L hLW nL).trans hl,(h4.block D hDW nD).trans hd,C,R',h1,h2,h3,(Kq.below hB).trans h4,h6 L hLW (hs2.av (by omega))⟩
 case done=>
  rintro D L W o hD hL hLt ⟨C,R',hend,hsm,hok,hkq,avL⟩ hdd
  obtain ⟨wL,hwL⟩: ∃wL,W.putObj L o=wL:=⟨_,rfl⟩
  have hkL:Kq (fun k=>k=L) W wL:=by rw [←hwL];exact Kq.put _ _ _ rfl
  rw [hwL]
  have hsL:=hsm.skip hkL avL
  have hDlt:D<W.heap.size:=(Array.getElem?_eq_some_iff.1 hdd).1
  have hdL:wL.heap[D]? =some (.deferred (some [])):=(hkL.block D hDlt (by show ¬D=L;omega)).trans hdd
  have hbW:Below w.heap.size w W:=below_kq hbW2 hkq (fun k e=>by have:=(hmu1 k e).1;omega) (by omega)
  have hbL:Below w.heap.size w wL:=by rw [←hwL];exact below_put hbW L o (by omega)
  have hrW:W.heap[w.heap.size+1]? =some (.cells #[.int .i64 0,.int .i64 0,.int .u64 0,.int .i64 0,.int .u64 0,.int .i64 0,.slice none 0 0,.slice none 0 0] 37 (0,0)):=(hkq.block _ (by omega) (fun e=>by have:=(hmu1 _ e).1;omega)).trans ((hbB2.block _ (by omega)).trans HB.out.2.1)
  have hrL:wL.heap[w.heap.size+1]? =some (.cells #[.int .i64 0,.int .i64 0,.int .u64 0,.int .i64 0,.int .u64 0,.int .i64 0,.slice none 0 0,.slice none 0 0] 37 (0,0)):=(hkL.block _ (lt_of_block hrW) (by show ¬_=L;omega)).trans hrW
  have HRS:=result_any wL wb.heap.size sb p C R' hsL hok hpl (hend.some rfl)
  have hDL2:D≠w.heap.size+1:=by omega
  have hDw:w.heap.size≤D:=by omega
  have HE:Hid (EndR p (fstA p) C∧AOk2 p C∧Below w.heap.size w wL∧wL.heap[D]? =some (.deferred (some []))∧wL.heap[w.heap.size+1]? =some (.cells #[.int .i64 0,.int .i64 0,.int .u64 0,.int .i64 0,.int .u64 0,.int .i64 0,.slice none 0 0,.slice none 0 0] 37 (0,0))∧D≠w.heap.size+1∧w.heap.size≤D):=⟨hend,hok,hbL,hdL,hrL,hDL2,hDw⟩
  clear hwL hkL hsL hdL hbW hbL hrW hrL hend hsm hok hkq avL hdd hDlt hLt hs2 hmu1 hbB2 hbW2 hz2 hzb hb2 hbx2 hsz2 hbx hsim hb1 hw2 hD hL hDL2 hDw HBG g0 g1 g2 g3 g4 g5 g6 g7 g8 HH HB
  gi_wp2_with (refine ⟨trivial,?_⟩;gi_at_call 46;(with_reducible refine (callsIn_wide.2 HRS).mono ?_);rintro e w5 ⟨k,cd,x,q1,c1,CC,q3,c3,rfl,hrk,hrs,hb5⟩;have hr1:=(hb5.block _ (lt_of_block HE.out.2.2.2.2.1)).trans HE.out.2.2.2.2.1;have hfr:=(fun k9=>frz hr1 k9);have l0:w5.cell? ⟨w.heap.size+1,0,none⟩=some (.int .i64 0):=cell_in hr1 rfl;have l1:w5.cell? ⟨w.heap.size+1,1,none⟩=some (.int .i64 0):=cell_in hr1 rfl;have l2:w5.cell? ⟨w.heap.size+1,2,none⟩=some (.int .u64 0):=cell_in hr1 rfl;have l3:w5.cell? ⟨w.heap.size+1,3,none⟩=some (.int .i64 0):=cell_in hr1 rfl;have l4:w5.cell? ⟨w.heap.size+1,4,none⟩=some (.int .u64 0):=cell_in hr1 rfl;have l5:w5.cell? ⟨w.heap.size+1,5,none⟩=some (.int .i64 0):=cell_in hr1 rfl;have l6:w5.cell? ⟨w.heap.size+1,6,none⟩=some (.slice none 0 0):=cell_in hr1 rfl;have l7:w5.cell? ⟨w.heap.size+1,7,none⟩=some (.slice none 0 0):=cell_in hr1 rfl)
  generalize hWF:(World.setCell (World.setCell (World.setCell (World.setCell (World.setCell (World.setCell (World.setCell (World.setCell w5 _ _) _ _) _ _) _ _) _ _) _ _) _ _) _ _)=wF
  have hres:wF.heap[w.heap.size+1]? =some (.cells #[.int .i64 k,.int .i64 cd,.int .u64 x.t,.int .i64 x.s,.int .u64 x.q,.int .i64 0,.slice q1 p.nq c1,.slice q3 C.m c3] 37 (0,0)):=by
   rw [←hWF,setCell_block _ _ _ _ (setCell_block _ _ _ _ (setCell_block _ _ _ _ (setCell_block _ _ _ _ (setCell_block _ _ _ _ (setCell_block _ _ _ _ (setCell_block _ _ _ _ (setCell_block _ _ _ _ hr1)))))))]
   rfl
  have hkF:Kb (fun k9=>k9=w.heap.size+1) w5 wF:=by
   rw [←hWF]
   exact ((((((((Kb.set (S:=fun k9=>k9=w.heap.size+1) _ _ _ _ rfl).trans (Kb.set _ _ _ _ rfl)).trans (Kb.set _ _ _ _ rfl)).trans (Kb.set _ _ _ _ rfl)).trans (Kb.set _ _ _ _ rfl)).trans (Kb.set _ _ _ _ rfl)).trans (Kb.set _ _ _ _ rfl)).trans (Kb.set _ _ _ _ rfl))
  obtain ⟨y1,y2,y3,y4,y5,y6,y7⟩:=HE.out
  have hbw:=y3.trans (hb5.mono y3.size)
  have hbF:Below w.heap.size w wF:=by
   rw [←hWF]
   exact ((((((((hbw.setCell (p:=⟨w.heap.size+1,0,none⟩) (Nat.le_succ _) _).setCell (p:=⟨w.heap.size+1,1,none⟩) (Nat.le_succ _) _).setCell (p:=⟨w.heap.size+1,2,none⟩) (Nat.le_succ _) _).setCell (p:=⟨w.heap.size+1,3,none⟩) (Nat.le_succ _) _).setCell (p:=⟨w.heap.size+1,4,none⟩) (Nat.le_succ _) _).setCell (p:=⟨w.heap.size+1,5,none⟩) (Nat.le_succ _) _).setCell (p:=⟨w.heap.size+1,6,none⟩) (Nat.le_succ _) _).setCell (p:=⟨w.heap.size+1,7,none⟩) (Nat.le_succ _) _)
  have hDlt:D<wL.heap.size:=(Array.getElem?_eq_some_iff.1 y4).1
  have hDF:wF.heap[D]? =some (.deferred (some [])):=(hkF.block D (Nat.lt_of_lt_of_le hDlt hb5.size) y6).trans ((hb5.block D hDlt).trans y4)
  have hwlt:=lt_of_block y5
  obtain ⟨wG,hwG⟩: ∃wG,wF.putObj D (.deferred none)=wG:=⟨_,rfl⟩
  have hkG:Kq (fun k9=>k9=D) wF wG:=by rw [←hwG];exact Kq.put _ _ _ rfl
  have hresG:=(hkG.block _ (lt_of_block hres) (by show ¬_=D;omega)).trans hres
  have hbG:Below w.heap.size w wG:=by rw [←hwG];exact below_put hbF D _ y7
  have z0:wG.cell? ⟨w.heap.size+1,0,none⟩=some (.int .i64 k):=cell_in hresG rfl
  have z1:wG.cell? ⟨w.heap.size+1,1,none⟩=some (.int .i64 cd):=cell_in hresG rfl
  have z2:wG.cell? ⟨w.heap.size+1,2,none⟩=some (.int .u64 x.t):=cell_in hresG rfl
  have z3:wG.cell? ⟨w.heap.size+1,3,none⟩=some (.int .i64 x.s):=cell_in hresG rfl
  have z4:wG.cell? ⟨w.heap.size+1,4,none⟩=some (.int .u64 x.q):=cell_in hresG rfl
  have z5:wG.cell? ⟨w.heap.size+1,5,none⟩=some (.int .i64 0):=cell_in hresG rfl
  have z6:wG.cell? ⟨w.heap.size+1,6,none⟩=some (.slice q1 p.nq c1):=cell_in hresG rfl
  have z7:wG.cell? ⟨w.heap.size+1,7,none⟩=some (.slice q3 C.m c3):=cell_in hresG rfl
  obtain ⟨rb,hrs⟩:=hrs
  have hrsG:RsA wG (wL.heap.size+1) rb p C q1 CC q3 c3:=(hrs.kb (hkF.wide fun k9 e9=>.inl (by omega))).kb ((Kb.kq hkG).wide fun k9 e9=>.inl (by omega))
  refine ⟨by simp,.inl ⟨_,_,rfl,run_takeDeferred hDF,?_⟩⟩
  rw [hwG]
  refine ⟨.agg #[.int .i64 k,.int .i64 cd,.int .u64 x.t,.int .i64 x.s,.int .u64 x.q,.int .i64 0,.slice q1 p.nq c1,.slice q3 C.m c3],by simp [results,Tryz.results12,go_sem,z0,z1,z2,z3,z4,z5,z6,z7];try rfl,?_⟩
  exact ⟨C,k,cd,x,q1,c1,CC,q3,c3,y1,y2,hrk,rfl,⟨wL.heap.size+1,rb,by have:=y3.size;omega,hrsG⟩,hbG⟩
end Go.Proofs.YtecgecpgmpmkoaaGreat
