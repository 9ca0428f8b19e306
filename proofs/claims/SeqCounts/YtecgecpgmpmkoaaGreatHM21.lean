import Derived.Test.YtecgecpgmpmkoaaGreatHM19
import Derived.Test.YtecgecpgmpmkoaaGreatHV14
import Derived.Deep.DeepCutAuto
namespace Go.Proofs.YtecgecpgmpmkoaaGreat
open Go.ChangeShapes Go.WideShapes Go.ChangeAt Go.RowKit
set_option linter.unusedVariables false
theorem cells12 {W:World} {b:Nat} {c0 c1 c2 c3 c4 c5 c6 c7 c8 c9 ca cb:Value} {t:TypeId} (h:W.heap[b]? =some (.cells #[c0,c1,c2,c3,c4,c5,c6,c7,c8,c9,ca,cb] t (0,0))):(W.cell? ⟨b,0,none⟩=some c0∧W.cell? ⟨b,1,none⟩=some c1∧W.cell? ⟨b,2,none⟩=some c2∧W.cell? ⟨b,3,none⟩=some c3∧W.cell? ⟨b,4,none⟩=some c4∧W.cell? ⟨b,5,none⟩=some c5)∧W.cell? ⟨b,6,none⟩=some c6∧W.cell? ⟨b,7,none⟩=some c7∧W.cell? ⟨b,8,none⟩=some c8∧W.cell? ⟨b,9,none⟩=some c9∧W.cell? ⟨b,10,none⟩=some ca∧W.cell? ⟨b,11,none⟩=some cb:=by
 refine ⟨⟨?_,?_,?_,?_,?_,?_⟩,?_,?_,?_,?_,?_,?_⟩
 all_goals (unfold World.cell?;rw [h];rfl)
structure Bx (w w3:World) (P:Pg) (v:PgV) (cl:Cl) (p:Option Addr) (n c:Nat) (d s:Int):Prop where
 bel:Below w.heap.size w w3
 pb:w3.heap[w.heap.size]? =some (.cells #[.int .i64 P.words,.int .i64 P.locals,.slice v.cp P.n v.cc,.slice v.ep P.m v.ec] 103 (0,0))
 cb:w3.heap[w.heap.size+1]? =some (.cells #[.int .u64 cl.time,.int .i64 cl.src,.int .u64 cl.seq,.int .i64 cl.dst,.int .i64 cl.kind,.int .i64 cl.data,.slice p n c,.int .u64 d,.int .u64 s,.int .u64 cl.look,.int .i64 cl.parts,.int .i64 cl.fuel] 131 (0,0))
 rb:w3.heap[w.heap.size+2]? =some (.cells #[.int .i64 0,.slice none 0 0,.int .u64 0,.int .u64 0,.slice none 0 0,.int .i64 0] 128 (0,0))
theorem Bx.lt {w w3:World} {P:Pg} {v:PgV} {cl:Cl} {p:Option Addr} {n c:Nat} {d s:Int} (h:Bx w w3 P v cl p n c d s):w.heap.size+2<w3.heap.size:=(Array.getElem?_eq_some_iff.1 h.rb).1
theorem Bx.later {w w3 w4:World} {P:Pg} {v:PgV} {cl:Cl} {p:Option Addr} {n c:Nat} {d s:Int} (h:Bx w w3 P v cl p n c d s) (hb:Below w3.heap.size w3 w4):Bx w w4 P v cl p n c d s:=by
 have hl:=h.lt
 exact ⟨h.bel.trans (hb.mono (by have:=h.bel.size;omega)),(hb.block _ (by omega)).trans h.pb,(hb.block _ (by omega)).trans h.cb,(hb.block _ (by omega)).trans h.rb⟩
theorem bx_new (w:World) (P:Pg) (v:PgV) (cl:Cl) (p:Option Addr) (n c:Nat) (d s:Int) (w3:World) (h:((w.alloc (.cells #[.int .i64 P.words,.int .i64 P.locals,.slice v.cp P.n v.cc,.slice v.ep P.m v.ec] 103)).alloc (.cells #[.int .u64 cl.time,.int .i64 cl.src,.int .u64 cl.seq,.int .i64 cl.dst,.int .i64 cl.kind,.int .i64 cl.data,.slice p n c,.int .u64 d,.int .u64 s,.int .u64 cl.look,.int .i64 cl.parts,.int .i64 cl.fuel] 131)).alloc (.cells #[.int .i64 0,.slice none 0 0,.int .u64 0,.int .u64 0,.slice none 0 0,.int .i64 0] 128)=w3):Bx w w3 P v cl p n c d s:=by
 subst h
 refine ⟨(((Below.refl _ w).alloc (Nat.le_refl _) _).alloc (by simp) _).alloc (by simp;omega) _,?_,?_,?_⟩
 ·rw [Below.heap_alloc _ _ _ (by simp;omega),Below.heap_alloc _ _ _ (by simp)]
  exact World.alloc_heap_new w _
 ·rw [Below.heap_alloc _ _ _ (by simp)]
  have:=World.alloc_heap_new (w.alloc (.cells #[.int .i64 P.words,.int .i64 P.locals,.slice v.cp P.n v.cc,.slice v.ep P.m v.ec] 103)) (.cells #[.int .u64 cl.time,.int .i64 cl.src,.int .u64 cl.seq,.int .i64 cl.dst,.int .i64 cl.kind,.int .i64 cl.data,.slice p n c,.int .u64 d,.int .u64 s,.int .u64 cl.look,.int .i64 cl.parts,.int .i64 cl.fuel] 131)
  rwa [World.size_alloc] at this
 ·have:=World.alloc_heap_new ((w.alloc (.cells #[.int .i64 P.words,.int .i64 P.locals,.slice v.cp P.n v.cc,.slice v.ep P.m v.ec] 103)).alloc (.cells #[.int .u64 cl.time,.int .i64 cl.src,.int .u64 cl.seq,.int .i64 cl.dst,.int .i64 cl.kind,.int .i64 cl.data,.slice p n c,.int .u64 d,.int .u64 s,.int .u64 cl.look,.int .i64 cl.parts,.int .i64 cl.fuel] 131)) (.cells #[.int .i64 0,.slice none 0 0,.int .u64 0,.int .u64 0,.slice none 0 0,.int .i64 0] 128)
  rwa [World.size_alloc,World.size_alloc] at this
theorem cells6' {W:World} {b:Nat} {c0 c1 c2 c3 c4 c5:Value} {t:TypeId} (h:W.heap[b]? =some (.cells #[c0,c1,c2,c3,c4,c5] t (0,0))):(W.cell? ⟨b,0,none⟩=some c0∧W.cell? ⟨b,1,none⟩=some c1∧W.cell? ⟨b,2,none⟩=some c2∧W.cell? ⟨b,3,none⟩=some c3∧W.cell? ⟨b,4,none⟩=some c4∧W.cell? ⟨b,5,none⟩=some c5)∧W.frozen? ⟨b,0,none⟩=false∧W.frozen? ⟨b,1,none⟩=false∧W.frozen? ⟨b,2,none⟩=false∧W.frozen? ⟨b,3,none⟩=false∧W.frozen? ⟨b,4,none⟩=false∧W.frozen? ⟨b,5,none⟩=false:=by
 refine ⟨⟨?_,?_,?_,?_,?_,?_⟩,frz h 0,frz h 1,frz h 2,frz h 3,frz h 4,frz h 5⟩
 all_goals (unfold World.cell?;rw [h];rfl)
theorem put6 {W:World} {b:Nat} {a0 a1 a2 a3 a4 a5:Value} {t:TypeId} (h:W.heap[b]? =some (.cells #[a0,a1,a2,a3,a4,a5] t (0,0))) (c0 c1 c2 c3 c4 c5:Value) (W':World) (e:(((((W.setCell ⟨b,0,none⟩ c0).setCell ⟨b,1,none⟩ c1).setCell ⟨b,2,none⟩ c2).setCell ⟨b,3,none⟩ c3).setCell ⟨b,4,none⟩ c4).setCell ⟨b,5,none⟩ c5=W'):
  W'.heap[b]? =some (.cells #[c0,c1,c2,c3,c4,c5] t (0,0))∧(∀k,k≠b→W'.heap[k]? =W.heap[k]?)∧ ∀B w0,Below B w0 W→B≤b→Below B w0 W':=by
 subst e
 refine ⟨?_,fun k hk=> ?_,fun B w0 hb hB=> ?_⟩
 ·rw [setCell_block _ _ _ _ (setCell_block _ _ _ _ (setCell_block _ _ _ _ (setCell_block _ _ _ _ (setCell_block _ _ _ _ (setCell_block _ _ _ _ h)))))]
  rfl
 ·rw [Below.heap_setCell _ _ _ _ hk,Below.heap_setCell _ _ _ _ hk,Below.heap_setCell _ _ _ _ hk,Below.heap_setCell _ _ _ _ hk,Below.heap_setCell _ _ _ _ hk,Below.heap_setCell _ _ _ _ hk]
 ·exact (((((hb.setCell (p:=⟨b,0,none⟩) hB _).setCell (p:=⟨b,1,none⟩) hB _).setCell (p:=⟨b,2,none⟩) hB _).setCell (p:=⟨b,3,none⟩) hB _).setCell (p:=⟨b,4,none⟩) hB _).setCell (p:=⟨b,5,none⟩) hB _
set_option maxRecDepth 100000 in
set_option maxHeartbeats 4000000 in
theorem run_bad (P:Pg) (v:PgV) (cl:Cl) (p:Option Addr) (n c:Nat) (d s:Int) (w:World) (h:PAt w P v) (hbad:dcode P P.m≠0):
  Calls Tryz.prog 65 #[.agg #[.int .i64 P.words,.int .i64 P.locals,.slice v.cp P.n v.cc,.slice v.ep P.m v.ec],.agg #[.int .u64 cl.time,.int .i64 cl.src,.int .u64 cl.seq,.int .i64 cl.dst,.int .i64 cl.kind,.int .i64 cl.data,.slice p n c,.int .u64 d,.int .u64 s,.int .u64 cl.look,.int .i64 cl.parts,.int .i64 cl.fuel]] w fun e w'=> ∃r,e=.returned r∧EfAt w' w.heap.size r (efErr (dcode P P.m))∧Below w.heap.size w w':=by
 obtain ⟨w3,hw3⟩: ∃w3,((w.alloc (.cells #[.int .i64 P.words,.int .i64 P.locals,.slice v.cp P.n v.cc,.slice v.ep P.m v.ec] 103)).alloc (.cells #[.int .u64 cl.time,.int .i64 cl.src,.int .u64 cl.seq,.int .i64 cl.dst,.int .i64 cl.kind,.int .i64 cl.data,.slice p n c,.int .u64 d,.int .u64 s,.int .u64 cl.look,.int .i64 cl.parts,.int .i64 cl.fuel] 131)).alloc (.cells #[.int .i64 0,.slice none 0 0,.int .u64 0,.int .u64 0,.slice none 0 0,.int .i64 0] 128)=w3:=⟨_,rfl⟩
 have hB:=bx_new w P v cl p n c d s w3 hw3
 have HW:Hid (((w.alloc (.cells #[.int .i64 P.words,.int .i64 P.locals,.slice v.cp P.n v.cc,.slice v.ep P.m v.ec] 103)).alloc (.cells #[.int .u64 cl.time,.int .i64 cl.src,.int .u64 cl.seq,.int .i64 cl.dst,.int .i64 cl.kind,.int .i64 cl.data,.slice p n c,.int .u64 d,.int .u64 s,.int .u64 cl.look,.int .i64 cl.parts,.int .i64 cl.fuel] 131)).alloc (.cells #[.int .i64 0,.slice none 0 0,.int .u64 0,.int .u64 0,.slice none 0 0,.int .i64 0] 128)=w3):=hw3
 have HV:=verify_any P v P.m w3 (h.1.below hB.bel) (h.2.below hB.bel)
 generalize dcode P P.m=code at HV hbad ⊢
 clear hw3 h
 go_enter Tryz.func65,Tryz.ntmps65
 go_wp2_with (go_at_call 100;rw [HW.out];(with_reducible refine HV.mono ?_);rintro e w1 ⟨rfl,hb1⟩;obtain ⟨⟨r0,r1,r2,r3,r4,r5⟩,f0,f1,f2,f3,f4,f5⟩:=cells6' (hB.later hb1).rb)
 generalize hWF:(World.setCell (World.setCell (World.setCell (World.setCell (World.setCell (World.setCell _ _ _) _ _) _ _) _ _) _ _) _ _)=wF
 obtain ⟨p1,p2,p3⟩:=put6 (hB.later hb1).rb _ _ _ _ _ _ wF hWF
 have hbF:=p3 _ _ (hB.later hb1).bel (by omega)
 clear hWF p2 p3 r0 r1 r2 r3 r4 r5 f0 f1 f2 f3 f4 f5
 obtain ⟨⟨d0,d1,d2,d3,d4,d5⟩,_⟩:=cells6' p1
 refine bodyPost_ret (v:=.agg #[.int .i64 code,.slice none 0 0,.int .u64 0,.int .u64 0,.slice none 0 0,.int .i64 0]) (by simp [results,Tryz.results65,go_sem,d0,d1,d2,d3,d4,d5];try rfl) rfl ?_
 exact ⟨_,rfl,⟨none,0,none,0,rfl,Own.nil0,Own.nil0⟩,hbF⟩
set_option maxRecDepth 100000 in
set_option maxHeartbeats 4000000 in
theorem run_unfit (P:Pg) (v:PgV) (cl:Cl) (p:Option Addr) (n c:Nat) (d s:Int) (w:World) (h:PAt w P v) (hz:dcode P P.m=0) (hf:fitsB P cl n=false):
  Calls Tryz.prog 65 #[.agg #[.int .i64 P.words,.int .i64 P.locals,.slice v.cp P.n v.cc,.slice v.ep P.m v.ec],.agg #[.int .u64 cl.time,.int .i64 cl.src,.int .u64 cl.seq,.int .i64 cl.dst,.int .i64 cl.kind,.int .i64 cl.data,.slice p n c,.int .u64 d,.int .u64 s,.int .u64 cl.look,.int .i64 cl.parts,.int .i64 cl.fuel]] w fun e w'=> ∃r,e=.returned r∧EfAt w' w.heap.size r (efErr 63)∧Below w.heap.size w w':=by
 obtain ⟨w3,hw3⟩: ∃w3,((w.alloc (.cells #[.int .i64 P.words,.int .i64 P.locals,.slice v.cp P.n v.cc,.slice v.ep P.m v.ec] 103)).alloc (.cells #[.int .u64 cl.time,.int .i64 cl.src,.int .u64 cl.seq,.int .i64 cl.dst,.int .i64 cl.kind,.int .i64 cl.data,.slice p n c,.int .u64 d,.int .u64 s,.int .u64 cl.look,.int .i64 cl.parts,.int .i64 cl.fuel] 131)).alloc (.cells #[.int .i64 0,.slice none 0 0,.int .u64 0,.int .u64 0,.slice none 0 0,.int .i64 0] 128)=w3:=⟨_,rfl⟩
 have hB:=bx_new w P v cl p n c d s w3 hw3
 have HW:Hid (((w.alloc (.cells #[.int .i64 P.words,.int .i64 P.locals,.slice v.cp P.n v.cc,.slice v.ep P.m v.ec] 103)).alloc (.cells #[.int .u64 cl.time,.int .i64 cl.src,.int .u64 cl.seq,.int .i64 cl.dst,.int .i64 cl.kind,.int .i64 cl.data,.slice p n c,.int .u64 d,.int .u64 s,.int .u64 cl.look,.int .i64 cl.parts,.int .i64 cl.fuel] 131)).alloc (.cells #[.int .i64 0,.slice none 0 0,.int .u64 0,.int .u64 0,.slice none 0 0,.int .i64 0] 128)=w3):=hw3
 have HV:=verify_any P v P.m w3 (h.1.below hB.bel) (h.2.below hB.bel)
 have HF:=fits_any P v cl p n c d s
 rw [hz] at HV
 rw [hf] at HF
 clear hw3 h hz hf
 go_enter Tryz.func65,Tryz.ntmps65
 go_wp2_with (first|(go_at_call 100;rw [HW.out];(with_reducible refine HV.mono ?_);rintro e w1 ⟨rfl,hb1⟩;obtain ⟨a0,a1,a2,a3⟩:=cells4 (hB.later hb1).pb;obtain ⟨⟨b0,b1,b2,b3,b4,b5⟩,b6,b7,b8,b9,b10,b11⟩:=cells12 (hB.later hb1).cb)|(go_at_call 107;(with_reducible refine (HF _).mono ?_);rintro e w2 ⟨rfl,hb2⟩;obtain ⟨⟨r0,r1,r2,r3,r4,r5⟩,f0,f1,f2,f3,f4,f5⟩:=cells6' ((hB.later hb1).later hb2).rb))
 generalize hWF:(World.setCell (World.setCell (World.setCell (World.setCell (World.setCell (World.setCell _ _ _) _ _) _ _) _ _) _ _) _ _)=wF
 obtain ⟨p1,p2,p3⟩:=put6 ((hB.later hb1).later hb2).rb _ _ _ _ _ _ wF hWF
 have hbF:=p3 _ _ ((hB.later hb1).later hb2).bel (by omega)
 clear hWF p2 p3 r0 r1 r2 r3 r4 r5 f0 f1 f2 f3 f4 f5
 obtain ⟨⟨d0,d1,d2,d3,d4,d5⟩,_⟩:=cells6' p1
 refine bodyPost_ret (v:=.agg #[.int .i64 63,.slice none 0 0,.int .u64 0,.int .u64 0,.slice none 0 0,.int .i64 0]) (by simp [results,Tryz.results65,go_sem,d0,d1,d2,d3,d4,d5];try rfl) rfl ?_
 exact ⟨_,rfl,⟨none,0,none,0,rfl,Own.nil0,Own.nil0⟩,hbF⟩
end Go.Proofs.YtecgecpgmpmkoaaGreat
namespace Go.Proofs.YtecgecpgmpmkoaaGreat
open Go.ChangeShapes Go.WideShapes Go.ChangeAt Go.RowKit
set_option linter.unusedVariables false
set_option linter.unusedSimpArgs false
theorem keepM {W W':World} {k:Nat} {o:Obj} (h:W.heap[k]? =some o) (hb:Below W.heap.size W W'):W'.heap[k]? =some o:=(hb.block _ (Array.getElem?_eq_some_iff.1 h).1).trans h
theorem fresh_block {W:World} {k:Nat} {o:Obj} (h:W.heap[k]? =some o):k<W.heap.size:=(Array.getElem?_eq_some_iff.1 h).1
set_option maxRecDepth 100000 in
set_option maxHeartbeats 8000000 in
theorem run_good (P:Pg) (v:PgV) (cl:Cl) (p:Option Addr) (n c:Nat) (K:Nat→Int) (d s:Int) (w:World) (h:PAt w P v) (hz:dcode P P.m=0) (hf:fitsB P cl n=true) (hc:CallAt w cl p n c K d s) (hA64: ∀i,i<P.n→In64 (P.a i)):
  Calls Tryz.prog 65 #[.agg #[.int .i64 P.words,.int .i64 P.locals,.slice v.cp P.n v.cc,.slice v.ep P.m v.ec],.agg #[.int .u64 cl.time,.int .i64 cl.src,.int .u64 cl.seq,.int .i64 cl.dst,.int .i64 cl.kind,.int .i64 cl.data,.slice p n c,.int .u64 d,.int .u64 s,.int .u64 cl.look,.int .i64 cl.parts,.int .i64 cl.fuel]] w fun e w'=> ∃r,e=.returned r∧EfAt w' w.heap.size r (effP P cl n K d s)∧Below w.heap.size w w':=by
 obtain ⟨w3,hw3⟩: ∃w3,((w.alloc (.cells #[.int .i64 P.words,.int .i64 P.locals,.slice v.cp P.n v.cc,.slice v.ep P.m v.ec] 103)).alloc (.cells #[.int .u64 cl.time,.int .i64 cl.src,.int .u64 cl.seq,.int .i64 cl.dst,.int .i64 cl.kind,.int .i64 cl.data,.slice p n c,.int .u64 d,.int .u64 s,.int .u64 cl.look,.int .i64 cl.parts,.int .i64 cl.fuel] 131)).alloc (.cells #[.int .i64 0,.slice none 0 0,.int .u64 0,.int .u64 0,.slice none 0 0,.int .i64 0] 128)=w3:=⟨_,rfl⟩
 have hB:=bx_new w P v cl p n c d s w3 hw3
 have HW:Hid (((w.alloc (.cells #[.int .i64 P.words,.int .i64 P.locals,.slice v.cp P.n v.cc,.slice v.ep P.m v.ec] 103)).alloc (.cells #[.int .u64 cl.time,.int .i64 cl.src,.int .u64 cl.seq,.int .i64 cl.dst,.int .i64 cl.kind,.int .i64 cl.data,.slice p n c,.int .u64 d,.int .u64 s,.int .u64 cl.look,.int .i64 cl.parts,.int .i64 cl.fuel] 131)).alloc (.cells #[.int .i64 0,.slice none 0 0,.int .u64 0,.int .u64 0,.slice none 0 0,.int .i64 0] 128)=w3):=hw3
 have HV:=verify_any P v P.m w3 (h.1.below hB.bel) (h.2.below hB.bel)
 have HF:=fits_any P v cl p n c d s
 rw [hz] at HV
 rw [hf] at HF
 have hE: ∃E,effP P cl n K d s=E:=⟨_,rfl⟩
 obtain ⟨E,hE⟩:=hE
 rw [hE]
 have HE:Hid (effP P cl n K d s=E):=hE
 have HZ:Hid (dcode P P.m=0):=hz
 have HFB:Hid (fitsB P cl n=true):=hf
 have HP:Hid (PAt w P v):=h
 have HC:Hid (CallAt w cl p n c K d s):=hc
 have HA:Hid (∀i,i<P.n→In64 (P.a i)):=hA64
 clear hw3 h hz hf hE hc hA64
 go_enter Tryz.func65,Tryz.ntmps65
 go_upto_region 6 with (first|(go_at_call 100;rw [HW.out];(with_reducible refine HV.mono ?_);rintro e w1 ⟨rfl,hb1⟩;obtain ⟨a0,a1,a2,a3⟩:=cells4 (hB.later hb1).pb;obtain ⟨⟨b0,b1,b2,b3,b4,b5⟩,b6,b7,b8,b9,b10,b11⟩:=cells12 (hB.later hb1).cb)|(go_at_call 107;(with_reducible refine (HF _).mono ?_);rintro e w2 ⟨rfl,hb2⟩))
 have hB2:=(hB.later hb1).later hb2
 clear a0 a1 a2 a3 b0 b1 b2 b3 b4 b5 b6 b7 b8 b9 b10 b11 hb1 hb2 hB HV HF HW
 go_cut [6] (fun m wx=> ∃(mb:Nat) (q:Option Addr) (cc:Nat),m=.pointer (some ⟨mb,0,none⟩)∧MW w2 wx w2.heap.size mb n (machC (.slice v.cp P.n v.cc) cl p n c d s (.slice q n cc)) (newM K d s (.slice q n cc)))
 case first=>
  have hl2:=hB2.lt
  obtain ⟨i70,hi70,z70,hz70,hzs,hsz⟩: ∃i,Tryz.prog.info? 169=some i∧ ∃z,i.zero=some z∧z.cells.size=157∧(Tryz.prog.info? 169).map (·.size)=some 157:=by
   have:=infoMach
   cases hq:Tryz.prog.info? 169 with
   |none=>rw [hq] at this;cases this
   |some i=>
    rw [hq] at this
    simp only [Option.map_some,Option.some.injEq,Prod.mk.injEq] at this
    obtain ⟨h1,h2⟩:=this
    cases hz:i.zero with
    |none=>rw [hz] at h2;cases h2
    |some z=>rw [hz] at h2;exact ⟨i,rfl,z,hz,by simpa using h2,by simp [h1]⟩
  refine wp_region_held_drew (S:=fun W=>Below w2.heap.size w2 W) (by kernel_rfl) (below_drewNq _ w2 1) (fun hHeld=> ?_)
  have hS0:Below w2.heap.size w2 w2.drew:=hHeld
  refine wpAnyH_take (i:=0) (v:= ?hv0u1) rfl (by kernel_rfl) (by kernel_rfl) (by kernel_rfl) (fun _ _ _ h=>h) (Or.inl ⟨by rfl,?hy0u1⟩) (by assumption) ?hr0u1
  case hy0u1=>((intro W hSw;obtain ⟨a0,a1,a2,a3⟩:=cells4 (hB2.later hSw).pb;obtain ⟨⟨b0,b1,b2,b3,b4,b5⟩,b6,b7,b8,b9,b10,b11⟩:=cells12 (hB2.later hSw).cb;go_simp);try with_reducible rfl)
  simp only [List.getElem_toArray,List.getElem_cons_zero,List.getElem_cons_succ,Act.put,List.setIfInBounds_toArray,List.set_cons_zero,List.set_cons_succ]
  refine wpAnyH_take (i:=1) (v:= ?hv1u2) rfl (by kernel_rfl) (by kernel_rfl) (by kernel_rfl) (fun _ _ _ h=>h) (Or.inl ⟨by rfl,?hy1u2⟩) (by assumption) ?hr1u2
  case hy1u2=>((intro W hSw;obtain ⟨a0,a1,a2,a3⟩:=cells4 (hB2.later hSw).pb;obtain ⟨⟨b0,b1,b2,b3,b4,b5⟩,b6,b7,b8,b9,b10,b11⟩:=cells12 (hB2.later hSw).cb;go_simp);try with_reducible rfl)
  simp only [List.getElem_toArray,List.getElem_cons_zero,List.getElem_cons_succ,Act.put,List.setIfInBounds_toArray,List.set_cons_zero,List.set_cons_succ]
  refine wpAnyH_take (i:=2) (v:= ?hv2u3) rfl (by kernel_rfl) (by kernel_rfl) (by kernel_rfl) (fun _ _ _ h=>h) (Or.inl ⟨by rfl,?hy2u3⟩) (by assumption) ?hr2u3
  case hy2u3=>((intro W hSw;obtain ⟨a0,a1,a2,a3⟩:=cells4 (hB2.later hSw).pb;obtain ⟨⟨b0,b1,b2,b3,b4,b5⟩,b6,b7,b8,b9,b10,b11⟩:=cells12 (hB2.later hSw).cb;go_simp);try with_reducible rfl)
  simp only [List.getElem_toArray,List.getElem_cons_zero,List.getElem_cons_succ,Act.put,List.setIfInBounds_toArray,List.set_cons_zero,List.set_cons_succ]
  refine wpAnyH_take (i:=4) (v:= ?hv4u4) rfl (by kernel_rfl) (by kernel_rfl) (by kernel_rfl) (fun _ _ _ h=>h) (Or.inl ⟨by rfl,?hy4u4⟩) (by assumption) ?hr4u4
  case hy4u4=>((intro W hSw;obtain ⟨a0,a1,a2,a3⟩:=cells4 (hB2.later hSw).pb;obtain ⟨⟨b0,b1,b2,b3,b4,b5⟩,b6,b7,b8,b9,b10,b11⟩:=cells12 (hB2.later hSw).cb;go_simp);try with_reducible rfl)
  simp only [List.getElem_toArray,List.getElem_cons_zero,List.getElem_cons_succ,Act.put,List.setIfInBounds_toArray,List.set_cons_zero,List.set_cons_succ]
  refine wpAnyH_take (i:=5) (v:= ?hv5u5) rfl (by kernel_rfl) (by kernel_rfl) (by kernel_rfl) (fun _ _ _ h=>h) (Or.inl ⟨by rfl,?hy5u5⟩) (by assumption) ?hr5u5
  case hy5u5=>((intro W hSw;obtain ⟨a0,a1,a2,a3⟩:=cells4 (hB2.later hSw).pb;obtain ⟨⟨b0,b1,b2,b3,b4,b5⟩,b6,b7,b8,b9,b10,b11⟩:=cells12 (hB2.later hSw).cb;go_simp);try with_reducible rfl)
  simp only [List.getElem_toArray,List.getElem_cons_zero,List.getElem_cons_succ,Act.put,List.setIfInBounds_toArray,List.set_cons_zero,List.set_cons_succ]
  refine wpAnyH_ready (rs:= [3,8]) (by kernel_rfl) (by simp) (AllReadyH.cons rfl (fun KK hK=> ?_) (AllReadyH.cons rfl (fun KK hK=> ?_) AllReadyH.nil))
  all_goals dsimp -proj only [List.getElem_toArray,List.getElem_cons_zero,List.getElem_cons_succ]
  ·go_simp
   go_at_call 108
   refine (pairs_any _).mono ?_
   rintro e x1 ⟨rfl,hb1⟩
   try go_wp2_with fail
   have hs1:Below w2.heap.size w2 x1:=hS0.trans (hb1.mono hS0.size)
   refine hK.out _ _ hs1 (fun hHeld=> ?_)
   clear hK KK
   try simp only [Act.put,List.setIfInBounds_toArray,List.set_cons_zero,List.set_cons_succ]
   refine wpAnyH_ready (rs:= [6,8]) (by kernel_rfl) (by simp) (AllReadyH.cons rfl (fun KK hK=> ?_) (AllReadyH.cons rfl (fun KK hK=> ?_) AllReadyH.nil))
   all_goals dsimp -proj only [List.getElem_toArray,List.getElem_cons_zero,List.getElem_cons_succ]
   ·go_simp
    go_at_call 109
    refine (copied_any p n c K d s x1 HC.out.room (HC.out.words.below (hB2.bel.trans (hs1.mono (by omega)))) HC.out.nil).mono ?_
    rintro e x2 ⟨q,cc,rfl,ho2,hb2⟩
    try go_wp2_with fail
    have hs2:Below w2.heap.size w2 x2:=hs1.trans (hb2.mono hs1.size)
    have hO2:=ho2.lower hs1.size
    refine hK.out _ _ hs2 (fun hHeld=> ?_)
    clear hK KK
    try simp only [Act.put,List.setIfInBounds_toArray,List.set_cons_zero,List.set_cons_succ]
    refine wpAnyH_take (i:=7) (v:= ?hv7u6) rfl (by kernel_rfl) (by kernel_rfl) (by kernel_rfl) (fun _ _ _ h=>h) (Or.inl ⟨by rfl,?hy7u6⟩) (by assumption) ?hr7u6
    case hy7u6=>((intro W hSw;refine yields_build 169 #[(0,.tmp 24),(1,.tmp 25),(2,.tmp 26),(3,.tmp 29)] ?h1 _ _ ?h2 (mach_built v.cp P.n v.cc cl p n c d s (.slice q n cc));(case h1=>rfl);(case h2=>first|kernel_rfl|simp [Act.eval,cvA]));try with_reducible rfl)
    simp only [List.getElem_toArray,List.getElem_cons_zero,List.getElem_cons_succ,Act.put,List.setIfInBounds_toArray,List.set_cons_zero,List.set_cons_succ]
    refine wpAnyH_ready (rs:= [8]) (by kernel_rfl) (by simp) (AllReadyH.cons rfl (fun KK hK=> ?_) AllReadyH.nil)
    all_goals dsimp -proj only [List.getElem_toArray,List.getElem_cons_zero,List.getElem_cons_succ]
    ·refine step_alloc_row rfl 169 rfl i70 z70 hi70 hz70 ?_
     obtain ⟨x3,hw3⟩: ∃x,(x2).alloc (.cells z70.cells 169)=x:=⟨_,rfl⟩
     have hb3:Below (x2).heap.size (x2) x3:=by rw [←hw3];exact (Below.refl _ _).alloc (Nat.le_refl _) _
     have hm3:x3.heap[(x2).heap.size]? =some (.cells z70.cells 169 (0,0)):=by rw [←hw3];exact World.alloc_heap_new _ _
     rw [hw3]
     clear hw3
     have hs3:Below w2.heap.size w2 x3:=hs2.trans (hb3.mono hs2.size)
     have hs3mb:w2.heap.size≤(x2).heap.size:=hs2.size
     have hd3:(Value.slice q n cc).ownBlock≠some (x2).heap.size:=fun e=>by have:=(hO2.lt _ e).2;omega
     have hO3:=hO2.later hb3
     refine hK.out _ _ hs3 (fun hHeld=> ?_)
     clear hK KK
     try simp only [Act.put,List.setIfInBounds_toArray,List.set_cons_zero,List.set_cons_succ]
     refine wpAnyH_ready (rs:= [9]) (by kernel_rfl) (by simp) (AllReadyH.cons rfl (fun KK hK=> ?_) AllReadyH.nil)
     all_goals dsimp -proj only [List.getElem_toArray,List.getElem_cons_zero,List.getElem_cons_succ]
     refine step_store_row rfl 169 _ _ rfl (x2).heap.size _ rfl rfl 169 _ hm3 (by rw [List.size_toArray,mach_len];exact hsz) (by rw [hzs,List.size_toArray,mach_len]) (mach_one _ cl p n c d s q cc rfl) ?_
     refine hK.out _ _ (setRow_below _ hs3 hs3mb) (fun hHeld=> ?_)
     clear hK KK
     try simp only [Act.put,List.setIfInBounds_toArray,List.set_cons_zero,List.set_cons_succ]
     refine wpAnyH_done (by kernel_rfl) ?_ _
     go_wp2_with fail
     go_meet
     exact ⟨(x2).heap.size,q,cc,rfl,gather hs3 hm3 hs3mb hO3 hd3⟩
   ·refine step_alloc_row rfl 169 rfl i70 z70 hi70 hz70 ?_
    obtain ⟨x4,hw4⟩: ∃x,(x1).alloc (.cells z70.cells 169)=x:=⟨_,rfl⟩
    have hb4:Below (x1).heap.size (x1) x4:=by rw [←hw4];exact (Below.refl _ _).alloc (Nat.le_refl _) _
    have hm4:x4.heap[(x1).heap.size]? =some (.cells z70.cells 169 (0,0)):=by rw [←hw4];exact World.alloc_heap_new _ _
    rw [hw4]
    clear hw4
    have hs4:Below w2.heap.size w2 x4:=hs1.trans (hb4.mono hs1.size)
    have hs4mb:w2.heap.size≤(x1).heap.size:=hs1.size
    refine hK.out _ _ hs4 (fun hHeld=> ?_)
    clear hK KK
    try simp only [Act.put,List.setIfInBounds_toArray,List.set_cons_zero,List.set_cons_succ]
    refine wpAnyH_ready (rs:= [6]) (by kernel_rfl) (by simp) (AllReadyH.cons rfl (fun KK hK=> ?_) AllReadyH.nil)
    all_goals dsimp -proj only [List.getElem_toArray,List.getElem_cons_zero,List.getElem_cons_succ]
    ·go_simp
     go_at_call 109
     refine (copied_any p n c K d s x4 HC.out.room (HC.out.words.below (hB2.bel.trans (hs4.mono (by omega)))) HC.out.nil).mono ?_
     rintro e x5 ⟨q,cc,rfl,ho5,hb5⟩
     try go_wp2_with fail
     have hs5:Below w2.heap.size w2 x5:=hs4.trans (hb5.mono hs4.size)
     have hm5:=keepM hm4 hb5
     have hs5mb:=hs4mb
     have hO5:=ho5.lower hs4.size
     have hd5:(Value.slice q n cc).ownBlock≠some (x1).heap.size:=fun e=>by have:=(ho5.lt _ e).1;have:=fresh_block hm4;omega
     refine hK.out _ _ hs5 (fun hHeld=> ?_)
     clear hK KK
     try simp only [Act.put,List.setIfInBounds_toArray,List.set_cons_zero,List.set_cons_succ]
     refine wpAnyH_take (i:=7) (v:= ?hv7u7) rfl (by kernel_rfl) (by kernel_rfl) (by kernel_rfl) (fun _ _ _ h=>h) (Or.inl ⟨by rfl,?hy7u7⟩) (by assumption) ?hr7u7
     case hy7u7=>((intro W hSw;refine yields_build 169 #[(0,.tmp 24),(1,.tmp 25),(2,.tmp 26),(3,.tmp 29)] ?h1 _ _ ?h2 (mach_built v.cp P.n v.cc cl p n c d s (.slice q n cc));(case h1=>rfl);(case h2=>first|kernel_rfl|simp [Act.eval,cvA]));try with_reducible rfl)
     simp only [List.getElem_toArray,List.getElem_cons_zero,List.getElem_cons_succ,Act.put,List.setIfInBounds_toArray,List.set_cons_zero,List.set_cons_succ]
     refine wpAnyH_ready (rs:= [9]) (by kernel_rfl) (by simp) (AllReadyH.cons rfl (fun KK hK=> ?_) AllReadyH.nil)
     all_goals dsimp -proj only [List.getElem_toArray,List.getElem_cons_zero,List.getElem_cons_succ]
     refine step_store_row rfl 169 _ _ rfl (x1).heap.size _ rfl rfl 169 _ hm5 (by rw [List.size_toArray,mach_len];exact hsz) (by rw [hzs,List.size_toArray,mach_len]) (mach_one _ cl p n c d s q cc rfl) ?_
     refine hK.out _ _ (setRow_below _ hs5 hs5mb) (fun hHeld=> ?_)
     clear hK KK
     try simp only [Act.put,List.setIfInBounds_toArray,List.set_cons_zero,List.set_cons_succ]
     refine wpAnyH_done (by kernel_rfl) ?_ _
     go_wp2_with fail
     go_meet
     exact ⟨(x1).heap.size,q,cc,rfl,gather hs5 hm5 hs5mb hO5 hd5⟩
  ·refine step_alloc_row rfl 169 rfl i70 z70 hi70 hz70 ?_
   obtain ⟨x6,hw6⟩: ∃x,(w2.drew).alloc (.cells z70.cells 169)=x:=⟨_,rfl⟩
   have hb6:Below (w2.drew).heap.size (w2.drew) x6:=by rw [←hw6];exact (Below.refl _ _).alloc (Nat.le_refl _) _
   have hm6:x6.heap[(w2.drew).heap.size]? =some (.cells z70.cells 169 (0,0)):=by rw [←hw6];exact World.alloc_heap_new _ _
   rw [hw6]
   clear hw6
   have hs6:Below w2.heap.size w2 x6:=hS0.trans (hb6.mono hS0.size)
   have hs6mb:w2.heap.size≤(w2.drew).heap.size:=hS0.size
   refine hK.out _ _ hs6 (fun hHeld=> ?_)
   clear hK KK
   try simp only [Act.put,List.setIfInBounds_toArray,List.set_cons_zero,List.set_cons_succ]
   refine wpAnyH_ready (rs:= [3]) (by kernel_rfl) (by simp) (AllReadyH.cons rfl (fun KK hK=> ?_) AllReadyH.nil)
   all_goals dsimp -proj only [List.getElem_toArray,List.getElem_cons_zero,List.getElem_cons_succ]
   ·go_simp
    go_at_call 108
    refine (pairs_any _).mono ?_
    rintro e x7 ⟨rfl,hb7⟩
    try go_wp2_with fail
    have hs7:Below w2.heap.size w2 x7:=hs6.trans (hb7.mono hs6.size)
    have hm7:=keepM hm6 hb7
    have hs7mb:=hs6mb
    refine hK.out _ _ hs7 (fun hHeld=> ?_)
    clear hK KK
    try simp only [Act.put,List.setIfInBounds_toArray,List.set_cons_zero,List.set_cons_succ]
    refine wpAnyH_ready (rs:= [6]) (by kernel_rfl) (by simp) (AllReadyH.cons rfl (fun KK hK=> ?_) AllReadyH.nil)
    all_goals dsimp -proj only [List.getElem_toArray,List.getElem_cons_zero,List.getElem_cons_succ]
    ·go_simp
     go_at_call 109
     refine (copied_any p n c K d s x7 HC.out.room (HC.out.words.below (hB2.bel.trans (hs7.mono (by omega)))) HC.out.nil).mono ?_
     rintro e x8 ⟨q,cc,rfl,ho8,hb8⟩
     try go_wp2_with fail
     have hs8:Below w2.heap.size w2 x8:=hs7.trans (hb8.mono hs7.size)
     have hm8:=keepM hm7 hb8
     have hs8mb:=hs7mb
     have hO8:=ho8.lower hs7.size
     have hd8:(Value.slice q n cc).ownBlock≠some (w2.drew).heap.size:=fun e=>by have:=(ho8.lt _ e).1;have:=fresh_block hm7;omega
     refine hK.out _ _ hs8 (fun hHeld=> ?_)
     clear hK KK
     try simp only [Act.put,List.setIfInBounds_toArray,List.set_cons_zero,List.set_cons_succ]
     refine wpAnyH_take (i:=7) (v:= ?hv7u8) rfl (by kernel_rfl) (by kernel_rfl) (by kernel_rfl) (fun _ _ _ h=>h) (Or.inl ⟨by rfl,?hy7u8⟩) (by assumption) ?hr7u8
     case hy7u8=>((intro W hSw;refine yields_build 169 #[(0,.tmp 24),(1,.tmp 25),(2,.tmp 26),(3,.tmp 29)] ?h1 _ _ ?h2 (mach_built v.cp P.n v.cc cl p n c d s (.slice q n cc));(case h1=>rfl);(case h2=>first|kernel_rfl|simp [Act.eval,cvA]));try with_reducible rfl)
     simp only [List.getElem_toArray,List.getElem_cons_zero,List.getElem_cons_succ,Act.put,List.setIfInBounds_toArray,List.set_cons_zero,List.set_cons_succ]
     refine wpAnyH_ready (rs:= [9]) (by kernel_rfl) (by simp) (AllReadyH.cons rfl (fun KK hK=> ?_) AllReadyH.nil)
     all_goals dsimp -proj only [List.getElem_toArray,List.getElem_cons_zero,List.getElem_cons_succ]
     refine step_store_row rfl 169 _ _ rfl (w2.drew).heap.size _ rfl rfl 169 _ hm8 (by rw [List.size_toArray,mach_len];exact hsz) (by rw [hzs,List.size_toArray,mach_len]) (mach_one _ cl p n c d s q cc rfl) ?_
     refine hK.out _ _ (setRow_below _ hs8 hs8mb) (fun hHeld=> ?_)
     clear hK KK
     try simp only [Act.put,List.setIfInBounds_toArray,List.set_cons_zero,List.set_cons_succ]
     refine wpAnyH_done (by kernel_rfl) ?_ _
     go_wp2_with fail
     go_meet
     exact ⟨(w2.drew).heap.size,q,cc,rfl,gather hs8 hm8 hs8mb hO8 hd8⟩
 case rest=>
  obtain ⟨mb,q,cc,rfl,hM⟩:=hcut
  have hBc:=hB2.later hM.bel
  have hl:=hBc.lt
  obtain ⟨⟨k1,k2⟩,⟨k3,k4⟩,⟨k5,k6⟩,k7,k8,k9⟩:=fitsB_yes HFB.out
  obtain ⟨_,hsP,hins,g,hnr,hbd⟩:=dcode_zero HZ.out
  have hkk:cl.kind.toNat<P.m:=by omega
  obtain ⟨a0,a1,a2,a3⟩:=cells4 hBc.pb
  obtain ⟨⟨b0,b1,b2,b3,b4,b5⟩,b6,b7,b8,b9,b10,b11⟩:=cells12 hBc.cb
  obtain ⟨⟨r0,r1,r2,r3,r4,r5⟩,f0,f1,f2,f3,f4,f5⟩:=cells6' hBc.rb
  have hKA:=HP.out.2.below hBc.bel
  rcases hKA with hKA|⟨eb,eo,hep,helt,hec⟩
  ·omega
  have ce:=hec cl.kind.toNat hkk
  rw [hep] at a3
  have en0:=g.en cl.kind.toNat hkk
  clear hec
  by_cases hen:P.en cl.kind.toNat= -1
  ·rw [hen] at ce
   have hE:effP P cl n K d s=⟨0,n,K,d,s,0,fun _=>undef,0⟩:=by
    unfold effP
    rw [if_neg (by rw [HZ.out];simp),if_neg (by rw [HFB.out];simp),if_pos hen]
   have m55:wc.cell? ⟨mb,55,none⟩=some (.slice q n cc):=hM.box.cell 55 (by omega)
   have m56:wc.cell? ⟨mb,56,none⟩=some (.int .u64 d):=hM.box.cell 56 (by omega)
   have m57:wc.cell? ⟨mb,57,none⟩=some (.int .u64 s):=hM.box.cell 57 (by omega)
   have hwr:Own wc w2.heap.size 2 1 (.slice q n cc) n (iv K):=hM.wr
   have hmb:=hM.box.lt
   have HE2:Hid (E=⟨0,n,K,d,s,0,fun _=>undef,0⟩):=HE.out.symm.trans hE
   clear hE hen HE hM
   go_wp2
   generalize hWF:(World.setCell (World.setCell (World.setCell (World.setCell (World.setCell (World.setCell _ _ _) _ _) _ _) _ _) _ _) _ _)=wF
   obtain ⟨p1,p2,p3⟩:=put6 hBc.rb _ _ _ _ _ _ wF hWF
   have hbF:=p3 _ _ hBc.bel (by omega)
   obtain ⟨⟨d0,d1,d2,d3,d4,d5⟩,_⟩:=cells6' p1
   refine bodyPost_ret (v:=.agg #[.int .i64 0,.slice q n cc,.int .u64 d,.int .u64 s,.slice none 0 0,.int .i64 0]) (by simp [results,Tryz.results65,go_sem,d0,d1,d2,d3,d4,d5];try rfl) rfl ?_
   refine ⟨_,rfl,?_,hbF⟩
   rw [HE2.out]
   have h2l:=hB2.lt
   refine ⟨q,cc,none,0,rfl,(hwr.far fun k hk=>p2 k ?_).lower (by omega),Own.nil0⟩
   have:=(hwr.lt _ hk).1
   omega
  ·obtain ⟨i0,hi0⟩: ∃i0:Nat,P.en cl.kind.toNat=i0:=⟨(P.en cl.kind.toNat).toNat,by omega⟩
   have hdl:=(sol_dL g hnr hbd).en _ hkk (by omega)
   have hi1:(P.en cl.kind.toNat).toNat=i0:=by omega
   rw [hi0] at ce
   rw [hi1] at hdl
   have hne: ¬(i0:Int)= -1:=by omega
   have hlt0:i0<P.n:=by omega
   have HR:=run_any P g hsP hnr hbd hins w2 wc mb n v.cc v.cp (machC (.slice v.cp P.n v.cc) cl p n c d s (.slice q n cc)) (newM K d s (.slice q n cc)) cl (mach_cc _ cl p n c d s _) HC.out.ok k7.symm (HP.out.1.below hB2.bel) hM (newM_ok HC.out _) i0 hlt0 (by rw [hdl];rfl) cl.fuel.toNat (by show 0+_=_;omega) (Int.le_refl _) k9 HA.out
   have hwv:runP P cl cl.fuel.toNat i0 (newM K d s (.slice q n cc))=((runOf P cl K d s).1,wvM (runOf P cl K d s).2 (.slice q n cc)):=by
    unfold runOf
    rw [hi1]
    exact runP_wv P cl (.slice q n cc) cl.fuel.toNat i0 (newM K d s (.slice none 0 0))
   rw [hwv] at HR
   have hE:effP P cl n K d s=if (runOf P cl K d s).1≠0 then ⟨(runOf P cl K d s).1,n,K,d,s,0,fun _=>undef,(runOf P cl K d s).2.used⟩ else ⟨0,n,(runOf P cl K d s).2.wd,(runOf P cl K d s).2.dice,(runOf P cl K d s).2.sent,(runOf P cl K d s).2.on,(runOf P cl K d s).2.oF,(runOf P cl K d s).2.used⟩:=by
    unfold effP
    rw [if_neg (by rw [HZ.out];simp),if_neg (by rw [HFB.out];simp),if_neg hen]
   rw [HE.out] at hE
   generalize runOf P cl K d s=R at hE HR
   clear hwv hdl hM HZ HA HE hen hi0 hi1 hnr hbd hins g hsP hlt0
   by_cases hR1:R.1=0
   ·rw [if_neg (by simpa using hR1)] at hE
    rw [hR1] at HR
    have HE2:Hid (E=_):=hE
    clear hE hR1
    go_wp2_with (go_at_call 110;(with_reducible refine HR.mono ?_);rintro e w4 ⟨rfl,hRR⟩;obtain ⟨ov,hM4⟩:=hRR.1 rfl;obtain ⟨op,oc,hov⟩:=own_slice hM4.out;have hov':ov=.slice op R.2.on oc:=hov;subst hov';clear hov;have hB4:=hB2.later hM4.bel;obtain ⟨⟨x0,x1,x2,x3,x4,x5⟩,y0,y1,y2,y3,y4,y5⟩:=cells6' hB4.rb;have m55:w4.cell? ⟨mb,55,none⟩=some (.slice q n cc):=hM4.box.cell 55 (by omega);have m56:w4.cell? ⟨mb,56,none⟩=some (.int .u64 R.2.dice):=hM4.box.cell 56 (by omega);have m57:w4.cell? ⟨mb,57,none⟩=some (.int .u64 R.2.sent):=hM4.box.cell 57 (by omega);have m155:w4.cell? ⟨mb,155,none⟩=some (.slice op R.2.on oc):=hM4.box.cell 155 (by omega);have m156:w4.cell? ⟨mb,156,none⟩=some (.int .i64 R.2.used):=hM4.box.cell 156 (by omega);have hmb:=hM4.box.lt;have hwr:Hid (Own w4 w2.heap.size 2 1 (.slice q n cc) n (iv R.2.wd)):=hM4.wr;have hou:Hid (Own w4 w2.heap.size 54 6 (.slice op R.2.on oc) R.2.on R.2.oF):=hM4.out;clear hM4 hRR HR)
    generalize hWF:(World.setCell (World.setCell (World.setCell (World.setCell (World.setCell (World.setCell _ _ _) _ _) _ _) _ _) _ _) _ _)=wF
    obtain ⟨p1,p2,p3⟩:=put6 hB4.rb _ _ _ _ _ _ wF hWF
    have hbF:=p3 _ _ hB4.bel (by omega)
    have h2l:=hB2.lt
    obtain ⟨⟨d0,d1,d2,d3,d4,d5⟩,_⟩:=cells6' p1
    refine bodyPost_ret (v:=.agg #[.int .i64 0,.slice q n cc,.int .u64 R.2.dice,.int .u64 R.2.sent,.slice op R.2.on oc,.int .i64 R.2.used]) (by simp [results,Tryz.results65,go_sem,d0,d1,d2,d3,d4,d5];try rfl) rfl ?_
    refine ⟨_,rfl,?_,hbF⟩
    rw [HE2.out]
    refine ⟨q,cc,op,oc,rfl,(hwr.out.far fun k hk=>p2 k ?_).lower (by omega),(hou.out.far fun k hk=>p2 k ?_).lower (by omega)⟩
    ·have:=(hwr.out.lt _ hk).1
     omega
    ·have:=(hou.out.lt _ hk).1
     omega
   ·rw [if_pos hR1] at hE
    have HE2:Hid (E=_):=hE
    have hR1b:(R.1==0)=false:=by simpa using hR1
    clear hE
    go_upto_region 12 with (go_at_call 110;(with_reducible refine HR.mono ?_);rintro e w4 ⟨rfl,hRR⟩;obtain ⟨M2,hM4,hus⟩:=hRR.2 hR1;have hB4:=hB2.later hM4.bel;have m156:w4.cell? ⟨mb,156,none⟩=some (.int .i64 R.2.used):=(hM4.box.cell 156 (by omega)).trans (congrArg (fun x=>some (Value.int .i64 x)) hus);have hmb:=hM4.box.lt;clear hM4 hRR HR)
    have hbw4:Below w.heap.size w w4:=hB4.bel
    obtain ⟨⟨b0,b1,b2,b3,b4,b5⟩,b6,b7,b8,b9,b10,b11⟩:=cells12 hB4.cb
    have HCP:=copied_any p n c K d s w4.drew HC.out.room (HC.out.words.below (hbw4.trans (below_drewNq _ w4 1))) HC.out.nil
    have hl4:=hB4.lt
    have h2l:=hB2.lt
    refine wp_region_held_drew (S:=fun W=>W.heap[w.heap.size+1]? =w4.heap[w.heap.size+1]? ∧W.heap[mb]? =w4.heap[mb]?) (by kernel_rfl) ⟨rfl,rfl⟩ (fun hHeld=> ?_)
    clear b0 b1 b2 b3 b4 b5 b6 b7 b8 b9 b10 b11 a0 a1 a2 a3 r0 r1 r2 r3 r4 r5 f0 f1 f2 f3 f4 f5
    refine wpAnyH_take (i:=0) (v:= ?hv0u9) rfl (by kernel_rfl) (by kernel_rfl) (by kernel_rfl) (fun _ _ _ h=>h) (Or.inl ⟨by rfl,?hy0u9⟩) (by assumption) ?hr0u9
    case hy0u9=>((intro W hSw;obtain ⟨⟨b0,b1,b2,b3,b4,b5⟩,b6,b7,b8,b9,b10,b11⟩:=cells12 (hSw.1.trans hB4.cb);have m:=(World.cell?_of_block (a:=⟨mb,156,none⟩) hSw.2).trans m156;go_simp);try with_reducible rfl)
    simp only [List.getElem_toArray,List.getElem_cons_zero,List.getElem_cons_succ,Act.put,List.setIfInBounds_toArray,List.set_cons_zero,List.set_cons_succ]
    refine wpAnyH_take (i:=1) (v:= ?hv1u10) rfl (by kernel_rfl) (by kernel_rfl) (by kernel_rfl) (fun _ _ _ h=>h) (Or.inl ⟨by rfl,?hy1u10⟩) (by assumption) ?hr1u10
    case hy1u10=>((intro W hSw;obtain ⟨⟨b0,b1,b2,b3,b4,b5⟩,b6,b7,b8,b9,b10,b11⟩:=cells12 (hSw.1.trans hB4.cb);have m:=(World.cell?_of_block (a:=⟨mb,156,none⟩) hSw.2).trans m156;go_simp);try with_reducible rfl)
    simp only [List.getElem_toArray,List.getElem_cons_zero,List.getElem_cons_succ,Act.put,List.setIfInBounds_toArray,List.set_cons_zero,List.set_cons_succ]
    refine wpAnyH_take (i:=2) (v:= ?hv2u11) rfl (by kernel_rfl) (by kernel_rfl) (by kernel_rfl) (fun _ _ _ h=>h) (Or.inl ⟨by rfl,?hy2u11⟩) (by assumption) ?hr2u11
    case hy2u11=>((intro W hSw;obtain ⟨⟨b0,b1,b2,b3,b4,b5⟩,b6,b7,b8,b9,b10,b11⟩:=cells12 (hSw.1.trans hB4.cb);have m:=(World.cell?_of_block (a:=⟨mb,156,none⟩) hSw.2).trans m156;go_simp);try with_reducible rfl)
    simp only [List.getElem_toArray,List.getElem_cons_zero,List.getElem_cons_succ,Act.put,List.setIfInBounds_toArray,List.set_cons_zero,List.set_cons_succ]
    refine wpAnyH_take (i:=4) (v:= ?hv4u12) rfl (by kernel_rfl) (by kernel_rfl) (by kernel_rfl) (fun _ _ _ h=>h) (Or.inl ⟨by rfl,?hy4u12⟩) (by assumption) ?hr4u12
    case hy4u12=>((intro W hSw;obtain ⟨⟨b0,b1,b2,b3,b4,b5⟩,b6,b7,b8,b9,b10,b11⟩:=cells12 (hSw.1.trans hB4.cb);have m:=(World.cell?_of_block (a:=⟨mb,156,none⟩) hSw.2).trans m156;go_simp);try with_reducible rfl)
    simp only [List.getElem_toArray,List.getElem_cons_zero,List.getElem_cons_succ,Act.put,List.setIfInBounds_toArray,List.set_cons_zero,List.set_cons_succ]
    refine wpAnyH_take (i:=5) (v:= ?hv5u13) rfl (by kernel_rfl) (by kernel_rfl) (by kernel_rfl) (fun _ _ _ h=>h) (Or.inl ⟨by rfl,?hy5u13⟩) (by assumption) ?hr5u13
    case hy5u13=>((intro W hSw;obtain ⟨⟨b0,b1,b2,b3,b4,b5⟩,b6,b7,b8,b9,b10,b11⟩:=cells12 (hSw.1.trans hB4.cb);have m:=(World.cell?_of_block (a:=⟨mb,156,none⟩) hSw.2).trans m156;go_simp);try with_reducible rfl)
    simp only [List.getElem_toArray,List.getElem_cons_zero,List.getElem_cons_succ,Act.put,List.setIfInBounds_toArray,List.set_cons_zero,List.set_cons_succ]
    refine wpAnyH_ready (rs:= [3]) (by kernel_rfl) (by simp) (AllReadyH.cons rfl (fun KK hK=> ?_) AllReadyH.nil)
    all_goals dsimp -proj only [List.getElem_toArray,List.getElem_cons_zero,List.getElem_cons_succ]
    go_simp
    go_at_call 109
    refine HCP.mono ?_
    rintro e w5 ⟨q5,c5,rfl,hO5,hb5⟩
    try go_wp2_with fail
    have hB5:=(hB4.later (below_drewNq _ w4 1)).later hb5
    have hne1:w.heap.size+1≠w.heap.size+2:=by omega
    have hne2:mb≠w.heap.size+2:=by omega
    have hs5:w5.heap[w.heap.size+1]? =w4.heap[w.heap.size+1]? ∧w5.heap[mb]? =w4.heap[mb]? :=⟨hb5.block _ (by show _<w4.heap.size;omega),hb5.block _ hmb.1⟩
    refine hK.out _ _ hs5 (fun hHeld=> ?_)
    clear hK KK
    try simp only [Act.put,List.setIfInBounds_toArray,List.set_cons_zero,List.set_cons_succ]
    refine wpAnyH_take (i:=6) (v:= ?hv6u14) rfl (by kernel_rfl) (by kernel_rfl) (by kernel_rfl) (fun _ _ _ h=>h) (Or.inl ⟨by rfl,?hy6u14⟩) (by assumption) ?hr6u14
    case hy6u14=>((intro W hSw;go_simp);try with_reducible rfl)
    simp only [List.getElem_toArray,List.getElem_cons_zero,List.getElem_cons_succ,Act.put,List.setIfInBounds_toArray,List.set_cons_zero,List.set_cons_succ]
    refine wpAnyH_ready (rs:= [7]) (by kernel_rfl) (by simp) (AllReadyH.cons rfl (fun KK hK=> ?_) AllReadyH.nil)
    all_goals dsimp -proj only [List.getElem_toArray,List.getElem_cons_zero,List.getElem_cons_succ]
    refine step_store_row rfl 128 _ _ rfl (w.heap.size+2) _ rfl rfl 128 _ hB5.rb (by kernel_rfl) rfl (by kernel_rfl) ?_
    refine hK.out _ _ ⟨(setRow_far _ _ _ _ hne1).trans hs5.1,(setRow_far _ _ _ _ hne2).trans hs5.2⟩ (fun hHeld=> ?_)
    clear hK KK
    try simp only [Act.put,List.setIfInBounds_toArray,List.set_cons_zero,List.set_cons_succ]
    refine wpAnyH_done (by kernel_rfl) ?_ _
    go_wp2
    refine bodyPost_ret_by (v:=.agg #[.int .i64 R.1,.slice q5 n c5,.int .u64 d,.int .u64 s,.slice none 0 0,.int .i64 R.2.used]) (results_cell_row (p:=4) (ty:=128) rfl _ _ (w.heap.size+2) 128 _ (0,0) _ rfl (setRow_heap _ _ _ _ _ _ hB5.rb) Tryz.underlying128 rfl (by kernel_rfl)) rfl ?_
    refine ⟨_,rfl,?_,setRow_below _ hB5.bel (by omega)⟩
    rw [HE2.out]
    refine ⟨q5,c5,none,0,rfl,(hO5.far fun k hk=>setRow_far _ _ _ _ ?_).lower ?_,Own.nil0⟩
    ·have:=(hO5.lt _ hk).1
     have e4:w4.drew.heap.size=w4.heap.size:=rfl
     omega
    ·show w.heap.size≤w4.heap.size
     omega
end Go.Proofs.YtecgecpgmpmkoaaGreat
