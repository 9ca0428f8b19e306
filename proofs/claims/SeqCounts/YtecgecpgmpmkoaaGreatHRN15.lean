import Derived.Test.YtecgecpgmpmkoaaGreatHFS2
import Derived.Test.YtecgecpgmpmkoaaGreatHSV2
import Derived.Test.YtecgecpgmpmkoaaGreatHRN14
namespace Go.Proofs.YtecgecpgmpmkoaaGreat
open Go.ChangeShapes Go.WideShapes Go.ChangeAt Go.RowKit
set_option linter.unusedVariables false
set_option linter.unusedSimpArgs false
theorem mdA (n j:Nat) (hj:j<n*3):(madeCells (Value.agg #[.slice none 0 0,.int .u64 0,.int .u64 0]).cells (n*3)).toList.getD j undef=saF (fun _=>⟨none,0,0,0,0⟩) j:=by
 unfold madeCells saF saL
 have h6:(Value.agg #[.slice none 0 0,.int .u64 0,.int .u64 0]).cells.size=3:=rfl
 have hm:j % 3=0∨j % 3=1∨j % 3=2:=by omega
 simp [hj,h6]
 rcases hm with h|h|h<;>rw [h]<;>rfl
theorem mdE (n j:Nat) (hj:j<n*6):(madeCells (Value.agg #[.int .u64 0,.int .i64 0,.int .u64 0,.int .i64 0,.int .i64 0,.int .i64 0]).cells (n*6)).toList.getD j undef=seF (fun _=>⟨0,0,0,0,0,0⟩) j:=by
 unfold madeCells seF seC seL
 have h6:(Value.agg #[.int .u64 0,.int .i64 0,.int .u64 0,.int .i64 0,.int .i64 0,.int .i64 0]).cells.size=6:=rfl
 have hm:j % 6=0∨j % 6=1∨j % 6=2∨j % 6=3∨j % 6=4∨j % 6=5:=by omega
 simp [hj,h6]
 rcases hm with h|h|h|h|h|h<;>rw [h]<;>rfl
theorem AOk.more {W W':World} {p:Pl} {r:Value} {b i:Nat} {A:Nat→Sa} {q:Option Addr} {c:Nat} (h:AOk W p r b A i) (hk:Kb (fun k=>some k=r.ownBlock) W W') (hq:KAt W' q (p.nw i) (p.K i)) (he:EA W' r b q):AOk W' p r b (setS A i ⟨q,p.nw i,c,dz p.sd i,0⟩) (i+1):=fun j hj=>by
 unfold setS
 by_cases e:j=i
 ·rw [if_pos e,e]
  exact ⟨rfl,rfl,rfl,hq,he⟩
 ·rw [if_neg e]
  exact h.kb hk j (by omega)
theorem KPX {D w3:World} {b a k m:Nat} {x y:Value} (h1:D.heap.size=b+1) (h2:a<b) (hb:Below D.heap.size D w3) (h:D.cell? ⟨b,k,none⟩=some x∧D.cell? ⟨a,m,none⟩=some y):w3.cell? ⟨b,k,none⟩=some x∧w3.cell? ⟨a,m,none⟩=some y:=⟨(cell_below (a:=⟨b,k,none⟩) hb (by show b<_;omega)).trans h.1,(cell_below (a:=⟨a,m,none⟩) hb (by show a<_;omega)).trans h.2⟩
theorem KPS {W:World} {g b a k m o1 o2 o3:Nat} {x y x1 x2 x3:Value} (h1:b≠g) (h2:a≠g) (h:W.cell? ⟨b,k,none⟩=some x∧W.cell? ⟨a,m,none⟩=some y):(((W.setCell ⟨g,o1,none⟩ x1).setCell ⟨g,o2,none⟩ x2).setCell ⟨g,o3,none⟩ x3).cell? ⟨b,k,none⟩=some x∧(((W.setCell ⟨g,o1,none⟩ x1).setCell ⟨g,o2,none⟩ x2).setCell ⟨g,o3,none⟩ x3).cell? ⟨a,m,none⟩=some y:=by
 have key: ∀j,j≠g→(((W.setCell ⟨g,o1,none⟩ x1).setCell ⟨g,o2,none⟩ x2).setCell ⟨g,o3,none⟩ x3).heap[j]? =W.heap[j]? :=fun j hj=>by
  rw [Below.heap_setCell _ _ _ _ hj,Below.heap_setCell _ _ _ _ hj,Below.heap_setCell _ _ _ _ hj]
 exact ⟨(World.cell?_of_block (key b h1)).trans h.1,(World.cell?_of_block (key a h2)).trans h.2⟩
set_option maxRecDepth 100000 in
set_option maxHeartbeats 8000000 in
theorem firstPoint_any (p:Pl) (v:PlV) (w:World) (h:PlAt w p v) (hr:RoomyL p) (hT:GT p) (hS:GS p):Calls Tryz.prog 59 #[.agg #[.int .i64 p.ki,.slice v.pp p.np v.pc,.slice v.tp p.nq v.tc,.slice v.sp p.ns v.sc,.int .u64 p.sd,.int .u64 p.lk,.int .u64 p.en,.int .i64 p.bu,.int .i64 p.fu]] w fun e w'=> ∃(q:Option Addr) (c:Nat) (A:Nat→Sa) (q2:Option Addr) (c2:Nat) (d:Nat→Se),e=.returned (.agg #[.slice q p.nq c,.slice q2 p.ns c2,.slice none 0 0])∧SsAt w' q p.nq A p.K∧(∀j,j<p.nq→(A j).n=p.nw j∧(A j).d=dz p.sd j∧(A j).s=(cntS p.S p.ns (j:Int):Nat))∧SIn w' q2 p.ns d∧Stb klt 0 p.ns (evS p.S) d∧Srt klt 0 p.ns d∧Below w.heap.size w w':=by
 obtain ⟨iA,hA1,hA2,hA3,hA4⟩:=sinfo infoSA
 obtain ⟨iE,hE1,hE2,hE3,hE4⟩:=sinfo infoSE
 obtain ⟨wb,hwb⟩: ∃wb,(w.alloc (.cells #[.int .i64 p.ki,.slice v.pp p.np v.pc,.slice v.tp p.nq v.tc,.slice v.sp p.ns v.sc,.int .u64 p.sd,.int .u64 p.lk,.int .u64 p.en,.int .i64 p.bu,.int .i64 p.fu] 27)).alloc (.cells #[.slice none 0 0,.slice none 0 0,.slice none 0 0] 47)=wb:=⟨_,rfl⟩
 have hb0:Below w.heap.size w wb:=by rw [←hwb];exact ((Below.refl _ w).alloc (Nat.le_refl _) _).alloc (by simp) _
 have hbox:wb.heap[w.heap.size]? =some (.cells #[.int .i64 p.ki,.slice v.pp p.np v.pc,.slice v.tp p.nq v.tc,.slice v.sp p.ns v.sc,.int .u64 p.sd,.int .u64 p.lk,.int .u64 p.en,.int .i64 p.bu,.int .i64 p.fu] 27 (0,0)):=by
  rw [←hwb,Below.heap_alloc _ _ _ (by simp)]
  exact World.alloc_heap_new w _
 have hres:wb.heap[w.heap.size+1]? =some (.cells #[.slice none 0 0,.slice none 0 0,.slice none 0 0] 47 (0,0)):=by
  rw [←hwb]
  have:=World.alloc_heap_new (w.alloc (.cells #[.int .i64 p.ki,.slice v.pp p.np v.pc,.slice v.tp p.nq v.tc,.slice v.sp p.ns v.sc,.int .u64 p.sd,.int .u64 p.lk,.int .u64 p.en,.int .i64 p.bu,.int .i64 p.fu] 27)) (.cells #[.slice none 0 0,.slice none 0 0,.slice none 0 0] 47)
  rwa [World.size_alloc] at this
 have HSZ:Hid (wb.heap.size=w.heap.size+2):=by show wb.heap.size=w.heap.size+2;rw [←hwb];simp
 have HW:Hid ((w.alloc (.cells #[.int .i64 p.ki,.slice v.pp p.np v.pc,.slice v.tp p.nq v.tc,.slice v.sp p.ns v.sc,.int .u64 p.sd,.int .u64 p.lk,.int .u64 p.en,.int .i64 p.bu,.int .i64 p.fu] 27)).alloc (.cells #[.slice none 0 0,.slice none 0 0,.slice none 0 0] 47)=wb):=hwb
 have HP:Hid (PlAt wb p v):=h.below hb0
 have HR:Hid (RoomyL p):=hr
 have HT:Hid (GT p):=hT
 have HS:Hid (GS p):=hS
 have hnq:=hT.1
 have hns:=hS.1
 clear h hr hT hS
 obtain ⟨⟨c0,c1,c2,c3⟩,c4,c5,c6,c7,c8⟩:=cells9 hbox
 rw [←hwb] at c0 c1 c2 c3 c4 c5 c6 c7 c8
 clear hwb
 go_enter Tryz.func59,Tryz.ntmps59
 go_wp2_with (at_make;rw [HW.out];refine wpList_make_full _ rfl (.tmp 12) (.tmp 12) 34 rfl wb.heap.size 62 iA _ 3 Tryz.underlying34 hA1 hA2 hA3 .i64 .i64 p.nq p.nq p.nq rfl rfl rfl rfl ?c1 ?c2 ?c3 ?_)
 case c1=>rw [hA4];omega
 case c2=>unfold maxLen;omega
 case c3=>exact Nat.le_refl _
 intro w1 hown hgrow
 have hb1:Below wb.heap.size wb w1:=(Below.refl _ _).grown hgrow (Nat.le_refl _) (by simp)
 obtain ⟨g,hg⟩: ∃g,wb.heap.size=g:=⟨_,rfl⟩
 rw [hg] at hown hb1
 have hrow:ARow w1 g g p.nq p.nq (fun _=>⟨none,0,0,0,0⟩):=(own_of_row hown).congr fun j hj=>mdA p.nq j hj
 have hbx1:=(hb1.block w.heap.size (by have:=HSZ.out;omega)).trans hbox
 have HROW:Hid (ARow w1 g g p.nq p.nq (fun _=>⟨none,0,0,0,0⟩)∧Below g wb w1):=⟨hrow,hb1⟩
 have HG:Hid (wb.heap.size=g∧wb.heap.size=w.heap.size+2):=⟨hg,HSZ.out⟩
 clear c0 c1 c2 c3 c4 c5 c6 c7 c8 hown hgrow hrow hb1
 obtain ⟨⟨c0,c1,c2,c3⟩,c4,c5,c6,c7,c8⟩:=cells9 hbx1
 rw [hg]
 clear hbx1 hg
 go_wp2_with fail
 clear c0 c1 c2 c3 c4 c5 c6 c7 c8
 obtain ⟨wx,hwx⟩: ∃wx,wx=w1:=⟨_,rfl⟩
 go_loopw [17] (fun x wr=> ∃(i:Nat) (A:Nat→Sa),x=.int .i64 (i:Int)∧i≤p.nq∧ARow wr g g p.nq p.nq A∧AOk wr p (.slice (some ⟨g,0,none⟩) p.nq p.nq) g A i∧Below g wb wr) (fun x _=>p.nq-(intOf x).toNat)
 case atStart=>exact ⟨0,_,rfl,Nat.zero_le _,HROW.out.1,fun j hj=>absurd hj (Nat.not_lt_zero _),HROW.out.2⟩
 case round=>
  obtain ⟨i,A,rfl,hi,hrow,hok,hbr⟩:=hrel
  have hgs:=HG.out
  have hboxr:=(hbr.block w.heap.size (by omega)).trans hbox
  have hresr:=(hbr.block (w.heap.size+1) (by omega)).trans hres
  by_cases hlt:i<p.nq
  case pos=>
   have dlt:decide ((i:Int)<(p.nq:Int))=true:=by simp;omega
   have i0:(0:Int)≤(i:Int):=by omega
   have i1:(i:Int)<(p.nq:Int):=by omega
   have ei:IntKind.i64.wrap ((i:Int)+1)=(i:Int)+1:=by rw [IntKind.wrap_i64];omega
   have hm:=meas hlt
   have hbw:Below wb.heap.size wb wr:=by rw [hgs.1];exact hbr
   obtain hz|⟨gt,ot,hpp,hl,hc,hpa⟩:=(HP.out.below hbw).ts
   ·omega
   obtain ⟨y0,y1⟩:=hc i hlt
   have hba:Below wr.heap.size wr (wr.alloc (.cells #[.int .i64 (p.pr i),.slice (v.wp i) (p.nw i) (v.wc i)] 106)).drew:=((Below.refl _ wr).alloc (Nat.le_refl _) _).drew
   have hpb:(wr.alloc (.cells #[.int .i64 (p.pr i),.slice (v.wp i) (p.nw i) (v.wc i)] 106)).drew.heap[wr.heap.size]? =some (.cells #[.int .i64 (p.pr i),.slice (v.wp i) (p.nw i) (v.wc i)] 106 (0,0)):=World.alloc_heap_new wr _
   have hsb:(wr.alloc (.cells #[.int .i64 (p.pr i),.slice (v.wp i) (p.nw i) (v.wc i)] 106)).drew.heap.size=wr.heap.size+1:=World.size_alloc wr _
   have HC:=clone_any (v.wp i) (p.nw i) (v.wc i) (p.K i) (wr.alloc (.cells #[.int .i64 (p.pr i),.slice (v.wp i) (p.nw i) (v.wc i)] 106)).drew (HR.out.nw i hlt) ((hpa i hlt).below hba)
   have HD:=fun w'=>seed_any p.sd (i:Int) w'
   obtain ⟨dv,hdv⟩: ∃dv,U (sd (B p.sd) (B (i:Int)))=dv:=⟨_,rfl⟩
   rw [hdv] at HD
   have HDV:Hid (dz p.sd i=dv):=hdv
   have hgl:=hrow.lt
   have f0:=hrow.fz (i*3)
   have f1:=hrow.fz (i*3+1)
   have f2:=hrow.fz (i*3+2)
   obtain ⟨k0,k1,k2⟩:=hrow.cells hlt
   have HA:Hid (ARow wr g g p.nq p.nq A∧AOk wr p (.slice (some ⟨g,0,none⟩) p.nq p.nq) g A i∧Below g wb wr∧Below wr.heap.size wr (wr.alloc (.cells #[.int .i64 (p.pr i),.slice (v.wp i) (p.nw i) (v.wc i)] 106)).drew∧(wr.alloc (.cells #[.int .i64 (p.pr i),.slice (v.wp i) (p.nw i) (v.wc i)] 106)).drew.heap[wr.heap.size]? =some (.cells #[.int .i64 (p.pr i),.slice (v.wp i) (p.nw i) (v.wc i)] 106 (0,0))∧(wr.alloc (.cells #[.int .i64 (p.pr i),.slice (v.wp i) (p.nw i) (v.wc i)] 106)).drew.heap.size=wr.heap.size+1∧wr.heap[w.heap.size]? =some (.cells #[.int .i64 p.ki,.slice v.pp p.np v.pc,.slice v.tp p.nq v.tc,.slice v.sp p.ns v.sc,.int .u64 p.sd,.int .u64 p.lk,.int .u64 p.en,.int .i64 p.bu,.int .i64 p.fu] 27 (0,0))):=⟨hrow,hok,hbr,hba,hpb,hsb,hboxr⟩
   rw [hpp]
   have KP0:(wr.alloc (.cells #[.int .i64 (p.pr i),.slice (v.wp i) (p.nw i) (v.wc i)] 106)).drew.cell? ⟨wr.heap.size,1,none⟩=some (.slice (v.wp i) (p.nw i) (v.wc i))∧(wr.alloc (.cells #[.int .i64 (p.pr i),.slice (v.wp i) (p.nw i) (v.wc i)] 106)).drew.cell? ⟨w.heap.size,4,none⟩=some (.int .u64 p.sd):=⟨by unfold World.cell?;rw [hpb];rfl,((cell_below (W:=wr) (a:=⟨w.heap.size,4,none⟩) hba (lt_of_block hboxr)).trans (cells9 hboxr).2.1)⟩
   have hn1:wr.heap.size≠g:=by omega
   have hlw:w.heap.size<wr.heap.size:=by omega
   have hn2:w.heap.size≠g:=by omega
   clear hdv hc hpa hrow hok hbr hbw hba hboxr hresr hl hpp hpb hsb hgs f0 f1 f2 k0 k1 k2
   go_upto_region 5 with fail
   go_region_held3 (fun w'=>w'.cell? ⟨wr.heap.size,1,none⟩=some (.slice (v.wp i) (p.nw i) (v.wc i))∧w'.cell? ⟨w.heap.size,4,none⟩=some (.int .u64 p.sd)) (first|exact KP0|exact KP|exact KPS hn1 hn2 KP|go_keep) (first|(go_at_call 102;(with_reducible refine HC.mono ?_);rintro e w3 ⟨q,cc,rfl,hq3,hqn3,hb3⟩;have KP:w3.cell? ⟨wr.heap.size,1,none⟩=some (.slice (v.wp i) (p.nw i) (v.wc i))∧w3.cell? ⟨w.heap.size,4,none⟩=some (.int .u64 p.sd):=KPX HA.out.2.2.2.2.2.1 hlw hb3 KP0;have hrow3:ARow w3 g g p.nq p.nq A:=Own.later HA.out.1 (HA.out.2.2.2.1.trans (hb3.mono HA.out.2.2.2.1.size));have f0:=hrow3.fz (i*3);have f1:=hrow3.fz (i*3+1);have f2:=hrow3.fz (i*3+2);obtain ⟨k0,k1,k2⟩:=hrow3.cells hlt;have H3:Hid (ARow w3 g g p.nq p.nq A∧KAt w3 q (p.nw i) (p.K i)∧(∀g o,q=some ⟨g,o,none⟩→(wr.alloc (.cells #[.int .i64 (p.pr i),.slice (v.wp i) (p.nw i) (v.wc i)] 106)).drew.heap.size≤g∧g<w3.heap.size)∧Below (wr.alloc (.cells #[.int .i64 (p.pr i),.slice (v.wp i) (p.nw i) (v.wc i)] 106)).drew.heap.size (wr.alloc (.cells #[.int .i64 (p.pr i),.slice (v.wp i) (p.nw i) (v.wc i)] 106)).drew w3):=⟨hrow3,hq3,hqn3,hb3⟩;clear hrow3 hq3 hqn3 hb3)|(go_at_call 103;(with_reducible refine (HD _).mono ?_);rintro e ws ⟨rfl,hws⟩;subst ws))
   all_goals (
    go_wp2_with fail
    obtain ⟨j1,j2,j3,j4⟩:=H3.out
    obtain ⟨b1,b2,b3,b4,b5,b6,b7⟩:=HA.out
    have hk3:Kb (fun k=>some k=(Value.slice (some ⟨g,0,none⟩) p.nq p.nq).ownBlock) wr w3:=Kb.below (b4.trans (j4.mono b4.size))
    have hk4:Kb (fun k=>some k=(Value.slice (some ⟨g,0,none⟩) p.nq p.nq).ownBlock) w3 (w3.setCells g (i*3) (saL ⟨q,p.nw i,cc,dv,0⟩)):=kb_sets _ g (i*3) w3 _ rfl
    have hs4:(w3.setCells g (i*3) (saL ⟨q,p.nw i,cc,dv,0⟩)).heap.size=w3.heap.size:=setCells_size _ _ _ _
    have hEA:EA (w3.setCells g (i*3) (saL ⟨q,p.nw i,cc,dv,0⟩)) (.slice (some ⟨g,0,none⟩) p.nq p.nq) g q:=fun g' o' e'=>by
     obtain ⟨l1,l2⟩:=j3 g' o' e'
     refine ⟨by omega,by omega,fun e9=> ?_⟩
     have e8:some g'=some g:=e9
     injection e8 with e8
     omega
    have hA:=b2.more (c:=cc) (hk3.trans hk4) (j2.kb hk4 (fun g' o' e'=>(hEA g' o' e').2.2)) hEA
    rw [HDV.out] at hA
    have hb9:Below g wb w3:=b3.trans ((b4.trans (j4.mono b4.size)).mono (by omega))
    exact ⟨⟨i+1,setS A i ⟨q,p.nw i,cc,dv,0⟩,rfl,hlt,j1.put i ⟨q,p.nw i,cc,dv,0⟩,hA,setCells_below (saL ⟨q,p.nw i,cc,dv,0⟩) (i*3) w3 hb9 (Nat.le_refl _)⟩,hm⟩)
  have dlt:decide ((i:Int)<(p.nq:Int))=false:=by simp;omega
  obtain rfl:i=p.nq:=by omega
  obtain ⟨⟨c0,c1,c2,c3⟩,c4,c5,c6,c7,c8⟩:=cells9 hboxr
  obtain ⟨wy,hwy⟩: ∃wy,wr=wy:=⟨_,rfl⟩
  have HX:Hid (ARow wy g g p.nq p.nq A∧AOk wy p (.slice (some ⟨g,0,none⟩) p.nq p.nq) g A p.nq∧Below g wb wy∧wy.heap[w.heap.size]? =some (.cells #[.int .i64 p.ki,.slice v.pp p.np v.pc,.slice v.tp p.nq v.tc,.slice v.sp p.ns v.sc,.int .u64 p.sd,.int .u64 p.lk,.int .u64 p.en,.int .i64 p.bu,.int .i64 p.fu] 27 (0,0))∧wy.heap[w.heap.size+1]? =some (.cells #[.slice none 0 0,.slice none 0 0,.slice none 0 0] 47 (0,0))):=by rw [←hwy];exact ⟨hrow,hok,hbr,hboxr,hresr⟩
  obtain ⟨g2,hg2⟩: ∃g2,wr.heap.size=g2:=⟨_,rfl⟩
  have HG2:Hid (wy.heap.size=g2):=by show wy.heap.size=g2;rw [←hwy];exact hg2
  have HWY:Hid (wr=wy):=hwy
  clear hrow hok hbr hboxr hresr hgs hwy
  go_wp2_with (at_make;rw [HWY.out];refine wpList_make_full _ rfl (.tmp 36) (.tmp 36) 35 rfl wy.heap.size 54 iE _ 6 Tryz.underlying35 hE1 hE2 hE3 .i64 .i64 p.ns p.ns p.ns rfl rfl rfl rfl ?d1 ?d2 ?d3 ?_)
  case d1=>rw [hE4];omega
  case d2=>unfold maxLen;omega
  case d3=>exact Nat.le_refl _
  intro w2 hown2 hgrow2
  have hb2:Below wy.heap.size wy w2:=(Below.refl _ _).grown hgrow2 (Nat.le_refl _) (by simp)
  rw [HG2.out] at hown2
  have hrow2:SRow w2 g2 g2 p.ns p.ns (fun _=>⟨0,0,0,0,0,0⟩):=(own_of_row hown2).congr fun j hj=>mdE p.ns j hj
  obtain ⟨x1,x2,x3,x4,x5⟩:=HX.out
  have hra:ARow w2 g g p.nq p.nq (sA A p.S 0):=ARow.congr (Own.later x1 hb2) (sA_zero fun j hj=>(x2 j hj).2.2.1)
  have hgg:=HG.out
  have hy2:=HG2.out
  have hgl:=ARow.lt x1
  have hyb:=x3.size
  have HR2:Hid (ARow w2 g g p.nq p.nq (sA A p.S 0)∧SRow w2 g2 g2 p.ns p.ns (fun _=>⟨0,0,0,0,0,0⟩)∧Kb (fun k=>k=g) wy w2∧Below g wb w2):=⟨hra,hrow2,Kb.below hb2,x3.trans (hb2.mono (by omega))⟩
  have HL:Hid (g<g2∧w.heap.size+2=g∧g<wy.heap.size∧wb.heap.size=g):=⟨by omega,by omega,by omega,hgg.1⟩
  obtain ⟨⟨e0,e1,e2,e3⟩,e4,e5,e6,e7,e8⟩:=cells9 ((hb2.block _ (by omega)).trans x4)
  rw [HG2.out]
  clear x1 x2 x3 x4 x5 hra hgg hy2 hgl hyb hb2 hown2 hgrow2 hrow2 c0 c1 c2 c3 c4 c5 c6 c7 c8 hg2
  go_wp2_with fail
  clear e0 e1 e2 e3 e4 e5 e6 e7 e8
  go_loopw [41] (fun x wr=> ∃(i:Nat) (X:Nat→Se),x=.int .i64 (i:Int)∧i≤p.ns∧ARow wr g g p.nq p.nq (sA A p.S i)∧SRow wr g2 g2 p.ns p.ns X∧(∀j,j<i→X j=evS p.S j)∧Kb (fun k=>k=g) wy wr∧Below g wb wr) (fun x _=>p.ns-(intOf x).toNat)
  case atStart=>exact ⟨0,_,rfl,Nat.zero_le _,HR2.out.1,HR2.out.2.1,fun j hj=>absurd hj (Nat.not_lt_zero _),HR2.out.2.2.1,HR2.out.2.2.2⟩
  case round=>
   obtain ⟨i,X,rfl,hi,hrow,hsr,hev,hkr,hbr⟩:=hrel
   have hll:=HL.out
   by_cases hlt:i<p.ns
   case pos=>
    have dlt:decide ((i:Int)<(p.ns:Int))=true:=by simp;omega
    have i0:(0:Int)≤(i:Int):=by omega
    have i1:(i:Int)<(p.ns:Int):=by omega
    have ei:IntKind.i64.wrap ((i:Int)+1)=(i:Int)+1:=by rw [IntKind.wrap_i64];omega
    have hm:=meas hlt
    have hbw:Below wb.heap.size wb wr:=by rw [hll.2.2.2];exact hbr
    obtain hz|⟨gt,ot,hpp,hl,hc⟩:=(HP.out.below hbw).st
    ·omega
    obtain ⟨y0,y1,y2,y3⟩:=hc i hlt
    obtain ⟨⟨hd0,hd1⟩,_,_⟩:=HS.out.2 i hlt
    obtain ⟨dn,hdn⟩: ∃dn:Nat,(p.S i).d=(dn:Int):=⟨(p.S i).d.toNat,by omega⟩
    have hdl:dn<p.nq:=by omega
    have j0:(0:Int)≤(dn:Int):=by omega
    have j1:(dn:Int)<(p.nq:Int):=by omega
    rw [hdn] at y1
    obtain ⟨q0,q1,q2⟩:=hrow.cells hdl
    have q2':wr.cell? ⟨g,dn*3+2,none⟩=some (.int .u64 (cntS p.S i (dn:Int):Nat)):=q2
    obtain ⟨cn,hcn⟩: ∃cn:Nat,cntS p.S i (dn:Int)=cn:=⟨_,rfl⟩
    have hcl:=cntS_le p.S i (dn:Int)
    rw [hcn] at q2' hcl
    have ew:IntKind.u64.wrap ((cn:Int)+1)=(cn:Int)+1:=by rw [IntKind.wrap_u64];omega
    have r0:=hrow.fz (dn*3+2)
    have hgl:=hrow.lt
    have hsl:=hsr.lt
    have hn1:wr.heap.size≠g:=by omega
    have hn2:g≠g2:=by omega
    have hn3:wr.heap.size≠g2:=by omega
    obtain ⟨s0,s1,s2,s3,s4,s5⟩:=hsr.cells hlt
    have t0:=hsr.fz (i*6)
    have t1:=hsr.fz (i*6+1)
    have t2:=hsr.fz (i*6+2)
    have t3:=hsr.fz (i*6+3)
    have t4:=hsr.fz (i*6+4)
    have t5:=hsr.fz (i*6+5)
    have HA:Hid (ARow wr g g p.nq p.nq (sA A p.S i)∧SRow wr g2 g2 p.ns p.ns X∧(∀j,j<i→X j=evS p.S j)∧Kb (fun k=>k=g) wy wr∧Below g wb wr∧(p.S i).d=(dn:Int)∧cntS p.S i (dn:Int)=cn):=⟨hrow,hsr,hev,hkr,hbr,hdn,hcn⟩
    rw [hpp]
    clear hrow hsr hev hkr hbr hdn hcn hc hl hpp hll hbw q2 hd0 hd1 hcl
    have hpb:(wr.alloc (.cells #[.int .u64 (p.S i).t,.int .i64 (dn:Int),.int .i64 (p.S i).k,.int .i64 (p.S i).v] 30)).drew.heap[wr.heap.size]? =some (.cells #[.int .u64 (p.S i).t,.int .i64 (dn:Int),.int .i64 (p.S i).k,.int .i64 (p.S i).v] 30 (0,0)):=World.alloc_heap_new wr _
    have hba:Below wr.heap.size wr (wr.alloc (.cells #[.int .u64 (p.S i).t,.int .i64 (dn:Int),.int .i64 (p.S i).k,.int .i64 (p.S i).v] 30)).drew:=((Below.refl _ wr).alloc (Nat.le_refl _) _).drew
    have KP0:(wr.alloc (.cells #[.int .u64 (p.S i).t,.int .i64 (dn:Int),.int .i64 (p.S i).k,.int .i64 (p.S i).v] 30)).drew.cell? ⟨wr.heap.size,0,none⟩=some (.int .u64 (p.S i).t)∧(wr.alloc (.cells #[.int .u64 (p.S i).t,.int .i64 (dn:Int),.int .i64 (p.S i).k,.int .i64 (p.S i).v] 30)).drew.cell? ⟨wr.heap.size,1,none⟩=some (.int .i64 (dn:Int))∧(wr.alloc (.cells #[.int .u64 (p.S i).t,.int .i64 (dn:Int),.int .i64 (p.S i).k,.int .i64 (p.S i).v] 30)).drew.cell? ⟨g,dn*3+2,none⟩=some (.int .u64 (cn:Int)):=⟨by unfold World.cell?;rw [hpb];rfl,by unfold World.cell?;rw [hpb];rfl,(cell_below (W:=wr) (a:=⟨g,dn*3+2,none⟩) hba hgl.2).trans q2'⟩
    clear hpb hba
    go_upto_region 11 with fail
    go_region_held3 (fun w'=>w'.cell? ⟨wr.heap.size,0,none⟩=some (.int .u64 (p.S i).t)∧w'.cell? ⟨wr.heap.size,1,none⟩=some (.int .i64 (dn:Int))∧w'.cell? ⟨g,dn*3+2,none⟩=some (.int .u64 (cn:Int))) (first|exact KP0|go_keep) (fail)
    obtain ⟨w5,hw5⟩: ∃w5,((wr.alloc (.cells #[.int .u64 (p.S i).t,.int .i64 (dn:Int),.int .i64 (p.S i).k,.int .i64 (p.S i).v] 30)).alloc (.cells #[.int .u64 (p.S i).t,.int .i64 (dn:Int),.int .u64 (cn:Int)] 33)).drew=w5:=⟨_,rfl⟩
    rw [hw5]
    have h5a:w5.heap[wr.heap.size]? =some (.cells #[.int .u64 (p.S i).t,.int .i64 (dn:Int),.int .i64 (p.S i).k,.int .i64 (p.S i).v] 30 (0,0)):=by
     rw [←hw5]
     show ((wr.alloc _).alloc _).heap[_]? =_
     rw [Below.heap_alloc _ _ _ (by simp)]
     exact World.alloc_heap_new wr _
    have h5b:w5.heap[wr.heap.size+1]? =some (.cells #[.int .u64 (p.S i).t,.int .i64 (dn:Int),.int .u64 (cn:Int)] 33 (0,0)):=by
     rw [←hw5]
     have:=World.alloc_heap_new (wr.alloc (.cells #[.int .u64 (p.S i).t,.int .i64 (dn:Int),.int .i64 (p.S i).k,.int .i64 (p.S i).v] 30)) (.cells #[.int .u64 (p.S i).t,.int .i64 (dn:Int),.int .u64 (cn:Int)] 33)
     rw [World.size_alloc] at this
     exact this
    have h5c:Below wr.heap.size wr w5:=by rw [←hw5];exact (((Below.refl _ wr).alloc (Nat.le_refl _) _).alloc (by simp) _).drew
    have hrow5:ARow w5 g g p.nq p.nq (sA A p.S i):=Own.later HA.out.1 h5c
    have hsr5:SRow w5 g2 g2 p.ns p.ns X:=SRow.later HA.out.2.1 h5c
    obtain ⟨w6,hw6⟩: ∃w6,(((((w5.setCell ⟨g2,i*6,none⟩ (.int .u64 (p.S i).t)).setCell ⟨g2,i*6+1,none⟩ (.int .i64 (dn:Int))).setCell ⟨g2,i*6+2,none⟩ (.int .u64 (cn:Int))).setCell ⟨g2,i*6+3,none⟩ (.int .i64 (dn:Int))).setCell ⟨g2,i*6+4,none⟩ (.int .i64 (p.S i).k)).setCell ⟨g2,i*6+5,none⟩ (.int .i64 (p.S i).v)=w6:=⟨_,rfl⟩
    have hw6':w5.setCells g2 (i*6) (seL ⟨(p.S i).t,(dn:Int),(cn:Int),(dn:Int),(p.S i).k,(p.S i).v⟩)=w6:=hw6
    have hsr6:SRow w6 g2 g2 p.ns p.ns (setS X i ⟨(p.S i).t,(dn:Int),(cn:Int),(dn:Int),(p.S i).k,(p.S i).v⟩):=by rw [←hw6'];exact hsr5.put i _
    have ho6: ∀k,k≠g2→w6.heap[k]? =w5.heap[k]? :=fun k hk=>by rw [←hw6'];exact setCells_other _ _ _ _ _ hk
    have hz6:w6.heap.size=w5.heap.size:=by rw [←hw6'];exact setCells_size _ _ _ _
    have hrow6:ARow w6 g g p.nq p.nq (sA A p.S i):=Own.far hrow5 fun k hk=>by
     have e9:g=k:=by injection hk
     exact ho6 k (by omega)
    have hz5:=h5c.size
    obtain ⟨a0,a1,a2,a3⟩:=cells4p h5a
    obtain ⟨b0,b1,b2⟩:=cells3p h5b
    obtain ⟨d0,d1,d2,d3⟩:=cells4p ((ho6 _ hn3).trans h5a)
    obtain ⟨_,_,q26⟩:=hrow6.cells hdl
    have q26':w6.cell? ⟨g,dn*3+2,none⟩=some (.int .u64 (cn:Int)):=by rw [←HA.out.2.2.2.2.2.2];exact q26
    have r06:=hrow6.fz (dn*3+2)
    clear s0 s1 s2 s3 s4 s5 t0 t1 t2 t3 t4 t5 q0 q1 q2' r0 KP0 q26
    obtain ⟨s0,s1,s2,s3,s4,s5⟩:=hsr5.cells hlt
    have t0:=hsr5.fz (i*6)
    have t1:=hsr5.fz (i*6+1)
    have t2:=hsr5.fz (i*6+2)
    have t3:=hsr5.fz (i*6+3)
    have t4:=hsr5.fz (i*6+4)
    have t5:=hsr5.fz (i*6+5)
    have H6:Hid (SRow w6 g2 g2 p.ns p.ns (setS X i ⟨(p.S i).t,(dn:Int),(cn:Int),(dn:Int),(p.S i).k,(p.S i).v⟩)∧ARow w6 g g p.nq p.nq (sA A p.S i)∧(∀k,k≠g2→w6.heap[k]? =w5.heap[k]?)∧w6.heap.size=w5.heap.size∧Below wr.heap.size wr w5∧w5.setCells g2 (i*6) (seL ⟨(p.S i).t,(dn:Int),(cn:Int),(dn:Int),(p.S i).k,(p.S i).v⟩)=w6):=⟨hsr6,hrow6,ho6,hz6,h5c,hw6'⟩
    clear hsr6 hrow6 ho6 hz6 h5c hw6' hrow5 hsr5 h5a h5b hw5
    go_upto_region 13 with fail
    try rw [hw6]
    clear s0 s1 s2 s3 s4 s5 t0 t1 t2 t3 t4 t5 a0 a1 a2 a3 b0 b1 b2 hw6
    go_wp2_with fail
    obtain ⟨m1,m2,m3,m4,m5,m6⟩:=H6.out
    obtain ⟨n1,n2,n3,n4,n5,n6,n7⟩:=HA.out
    have hll:=HL.out
    have hy2:=HG2.out
    have hz5:=m5.size
    have hz4:=n4.size
    refine ⟨⟨i+1,setS X i ⟨(p.S i).t,(dn:Int),(cn:Int),(dn:Int),(p.S i).k,(p.S i).v⟩,rfl,hlt,?_,?_,fun j hj=> ?_,⟨?_,fun k hk hs=> ?_⟩,?_⟩,hm⟩
    ·have h9:=m2.put2 dn ((cn:Int)+1)
     rw [←n7] at h9 ⊢
     rw [sA_step A p.S i dn n6] at h9
     exact h9
    ·exact Own.far m1 fun k hk=>by
      have e9:g2=k:=by injection hk
      exact Below.heap_setCell _ _ _ _ (by show k≠g;omega)
    ·unfold setS
     by_cases e:j=i
     ·rw [if_pos e,e]
      unfold evS
      rw [n6,n7]
     ·rw [if_neg e]
      exact n3 j (by omega)
    ·have:(w6.setCell ⟨g,dn*3+2,none⟩ (.int .u64 ((cn:Int)+1))).heap.size=w6.heap.size:=by simp [World.setCell]
     omega
    ·rw [Below.heap_setCell _ _ _ _ hs,m3 k (by omega),m5.block k (by omega)]
     exact n4.block k hk hs
    ·have hh:Below g wb w6:=by
      rw [←m6]
      exact setCells_below _ _ _ (n5.trans (m5.mono (by omega))) (by omega)
     exact hh.setCell (p:=⟨g,dn*3+2,none⟩) (Nat.le_refl _) _
   have dlt:decide ((i:Int)<(p.ns:Int))=false:=by simp;omega
   obtain rfl:i=p.ns:=by omega
   have hsn:SIn wr (some ⟨g2,0,none⟩) p.ns (evS p.S):=(own_sin0 hsr).congr hev
   have HO:=order_any (some ⟨g2,0,none⟩) p.ns p.ns (evS p.S) (by omega) wr hsn
   have hres2:wr.heap[w.heap.size+1]? =some (.cells #[.slice none 0 0,.slice none 0 0,.slice none 0 0] 47 (0,0)):=(hkr.block _ (by omega) (by show w.heap.size+1≠g;omega)).trans HX.out.2.2.2.2
   have HF:Hid (ARow wr g g p.nq p.nq (sA A p.S p.ns)∧Kb (fun k=>k=g) wy wr∧Below g wb wr∧wr.heap[w.heap.size+1]? =some (.cells #[.slice none 0 0,.slice none 0 0,.slice none 0 0] 47 (0,0))):=⟨hrow,hkr,hbr,hres2⟩
   clear hrow hsr hev hkr hbr hsn hres2 hll
   go_upto_region 16 with (go_at_call 69;(with_reducible refine HO.mono ?_);rintro e w7 ⟨g3,d,rfl,h71,h72,h73,h74⟩;have hr7:=(h74.block _ (lt_of_block HF.out.2.2.2)).trans HF.out.2.2.2;have H7:Hid (SRow w7 wr.heap.size g3 p.ns p.ns d∧Stb klt 0 p.ns (evS p.S) d∧Srt klt 0 p.ns d∧Below wr.heap.size wr w7∧w7.heap[w.heap.size+1]? =some (.cells #[.slice none 0 0,.slice none 0 0,.slice none 0 0] 47 (0,0))):=⟨h71,h72,h73,h74,hr7⟩;have z0:=frz hr7 0;have z1:=frz hr7 1;have z2:=frz hr7 2;obtain ⟨v0,v1,v2⟩:=cells3p hr7;clear h71 h72 h73 h74 hr7)
   generalize hWF:(World.setCell (World.setCell (World.setCell w7 _ _) _ _) _ _)=wF
   obtain ⟨q1,q2,q3,q4⟩:=put3 H7.out.2.2.2.2 _ _ _ wF hWF
   obtain ⟨e0,e1,e2⟩:=cells3p q1
   refine bodyPost_ret (v:=.agg #[.slice (some ⟨g,0,none⟩) p.nq p.nq,.slice (some ⟨g3,0,none⟩) p.ns p.ns,.slice none 0 0]) (by simp [results,Tryz.results59,go_sem,e0,e1,e2];try rfl) rfl ?_
   obtain ⟨x1,x2,x3,x4,x5⟩:=HX.out
   obtain ⟨f1,f2,f3,f4⟩:=HF.out
   obtain ⟨h1,h2,h3,h4,h5⟩:=H7.out
   have hll:=HL.out
   have hfl:=ARow.lt f1
   have hz3:=SRow.lt h1
   have hz4:=h4.size
   have kbF:Kb (fun k=>k=w.heap.size+1) w7 wF:=⟨by omega,fun k _ hs=>q2 k hs⟩
   have kbA:Kb (fun k=>k=g∨k=w.heap.size+1) wy wF:=((f2.mono fun k e=>.inl e).trans (Kb.below h4)).trans (kbF.mono fun k e=>.inr e)
   have hrF:Own wF g 62 3 (.slice (some ⟨g,0,none⟩) p.nq p.nq) p.nq (saF (sA A p.S p.ns)):=Own.far (Own.later f1 h4) fun k hk=>by
    have e9:g=k:=by injection hk
    exact q2 k (by omega)
   have hkF: ∀j,j<p.nq→KAt wF (sA A p.S p.ns j).p (sA A p.S p.ns j).n (p.K j):=fun j hj=>by
    obtain ⟨a1,a2,a3,a4,a5⟩:=x2 j hj
    show KAt wF (A j).p (A j).n (p.K j)
    rw [a1]
    refine a4.kb kbA fun g' o' e' h9=> ?_
    obtain ⟨b1,b2,b3⟩:=a5 g' o' e'
    rcases h9 with h9|h9
    ·exact b3 (by rw [h9];rfl)
    ·omega
   obtain ⟨qq,cc,e9,hss⟩:=own_ss hrF hkF
   injection e9 with e8 e7 e6
   subst e8
   subst e6
   have hsF:SIn wF (some ⟨g3,0,none⟩) p.ns d:=own_sin0 (Own.far h1 fun k hk=>by
    have e9:g3=k:=by injection hk
    exact q2 k (by omega))
   refine ⟨_,_,_,_,_,d,rfl,hss,fun j hj=>⟨(x2 j hj).1,(x2 j hj).2.1,rfl⟩,hsF,h2,h3,?_⟩
   have hbF:Below w.heap.size w w7:=(hb0.trans (f3.mono (by omega))).trans (h4.mono (by omega))
   exact q3 _ _ hbF (by omega)
end Go.Proofs.YtecgecpgmpmkoaaGreat
namespace Go.Proofs.YtecgecpgmpmkoaaGreat
open Go.ChangeShapes Go.WideShapes Go.ChangeAt Go.RowKit
set_option linter.unusedVariables false
set_option linter.unusedSimpArgs false
theorem callB {f:Nat} {args:Array Value} {w:World} {G:Prop} {b0:Bool} (h:Calls Tryz.prog f args w fun e w'=> ∃b,e=.returned (.bool b)∧(b=true↔G)∧Below w.heap.size w w') (hb:b0=true↔G):Calls Tryz.prog f args w fun e w'=>e=.returned (.bool b0)∧Below w.heap.size w w':=h.mono (by
 rintro e w' ⟨b,rfl,h1,h2⟩
 have:b=b0:=by
  have h3:=h1.trans hb.symm
  cases b<;>cases b0<;>simp at h3<;>rfl
 subst this
 exact ⟨rfl,h2⟩)
set_option maxRecDepth 100000 in
set_option maxHeartbeats 4000000 in
theorem valid_any (p:Pl) (v:PlV) (w:World) (h:PlAt w p v):Calls Tryz.prog 19 #[.agg #[.int .i64 p.ki,.slice v.pp p.np v.pc,.slice v.tp p.nq v.tc,.slice v.sp p.ns v.sc,.int .u64 p.sd,.int .u64 p.lk,.int .u64 p.en,.int .i64 p.bu,.int .i64 p.fu]] w fun e w'=> ∃c,e=.returned (.int .i64 c)∧VC p c∧Below w.heap.size w w':=by
 obtain ⟨wb,hwb⟩: ∃wb,w.alloc (.cells #[.int .i64 p.ki,.slice v.pp p.np v.pc,.slice v.tp p.nq v.tc,.slice v.sp p.ns v.sc,.int .u64 p.sd,.int .u64 p.lk,.int .u64 p.en,.int .i64 p.bu,.int .i64 p.fu] 27)=wb:=⟨_,rfl⟩
 obtain ⟨hb0,hbox,hsz⟩:=boxed _ _ _ hwb
 have HW:Hid (w.alloc (.cells #[.int .i64 p.ki,.slice v.pp p.np v.pc,.slice v.tp p.nq v.tc,.slice v.sp p.ns v.sc,.int .u64 p.sd,.int .u64 p.lk,.int .u64 p.en,.int .i64 p.bu,.int .i64 p.fu] 27)=wb):=hwb
 have HP:Hid (PlAt wb p v):=h.below hb0
 clear h
 obtain ⟨⟨c0,c1,c2,c3⟩,c4,c5,c6,c7,c8⟩:=cells9 hbox
 rw [←hwb] at c0 c1 c2 c3 c4 c5 c6 c7 c8
 clear hwb
 have hc0:True:=trivial
 by_cases hki:p.ki<0∨32<p.ki
 ·by_cases hk0:p.ki<0
  ·have k0:decide (p.ki<0)=true:=by simp;omega
   have HV:Hid (VC p 126):=.inl ⟨hki,rfl⟩
   clear hc0
   go_enter Tryz.func19,Tryz.ntmps19
   go_wp2_with (first|(go_at_call 56;rw [HW.out];(with_reducible refine (HG wb (Below.refl _ _)).out.mono ?_);rintro e w1 ⟨rfl,hb1⟩;obtain ⟨⟨c0,c1,c2,c3⟩,c4,c5,c6,c7,c8⟩:=cells9 ((hb1.block _ (by omega)).trans hbox))|(go_at_call 57;(with_reducible refine (HT w1 hb1).out.mono ?_);rintro e w2 ⟨rfl,hb2'⟩;have hb2:Below wb.heap.size wb w2:=hb1.trans (hb2'.mono hb1.size);obtain ⟨⟨c0,c1,c2,c3⟩,c4,c5,c6,c7,c8⟩:=cells9 ((hb2.block _ (by omega)).trans hbox))|(go_at_call 58;(with_reducible refine (HS w2 hb2).out.mono ?_);rintro e w3 ⟨rfl,hb3'⟩;have hb3:Below wb.heap.size wb w3:=hb2.trans (hb3'.mono hb2.size);obtain ⟨⟨c0,c1,c2,c3⟩,c4,c5,c6,c7,c8⟩:=cells9 ((hb3.block _ (by omega)).trans hbox)))
   go_ret
   first|(refine ⟨_,rfl,HV.out,?_⟩;first|exact hb0.trans (hb3.mono hb0.size)|exact hb0.trans (hb2.mono hb0.size)|exact hb0.trans (hb1.mono hb0.size)|(rw [HW.out];exact hb0))
  ·have k0:decide (p.ki<0)=false:=by simp;omega
   have k1:decide ((32:Int)<p.ki)=true:=by simp;omega
   have HV:Hid (VC p 126):=.inl ⟨hki,rfl⟩
   clear hc0
   go_enter Tryz.func19,Tryz.ntmps19
   go_wp2_with (first|(go_at_call 56;rw [HW.out];(with_reducible refine (HG wb (Below.refl _ _)).out.mono ?_);rintro e w1 ⟨rfl,hb1⟩;obtain ⟨⟨c0,c1,c2,c3⟩,c4,c5,c6,c7,c8⟩:=cells9 ((hb1.block _ (by omega)).trans hbox))|(go_at_call 57;(with_reducible refine (HT w1 hb1).out.mono ?_);rintro e w2 ⟨rfl,hb2'⟩;have hb2:Below wb.heap.size wb w2:=hb1.trans (hb2'.mono hb1.size);obtain ⟨⟨c0,c1,c2,c3⟩,c4,c5,c6,c7,c8⟩:=cells9 ((hb2.block _ (by omega)).trans hbox))|(go_at_call 58;(with_reducible refine (HS w2 hb2).out.mono ?_);rintro e w3 ⟨rfl,hb3'⟩;have hb3:Below wb.heap.size wb w3:=hb2.trans (hb3'.mono hb2.size);obtain ⟨⟨c0,c1,c2,c3⟩,c4,c5,c6,c7,c8⟩:=cells9 ((hb3.block _ (by omega)).trans hbox)))
   go_ret
   first|(refine ⟨_,rfl,HV.out,?_⟩;first|exact hb0.trans (hb3.mono hb0.size)|exact hb0.trans (hb2.mono hb0.size)|exact hb0.trans (hb1.mono hb0.size)|(rw [HW.out];exact hb0))
 have k0:decide (p.ki<0)=false:=by simp;omega
 have k1:decide ((32:Int)<p.ki)=false:=by simp;omega
 by_cases hGP:GP p
 case neg=>
  have HV:Hid (VC p 120):=.inr ⟨hki,.inl ⟨hGP,rfl⟩⟩
  clear hc0
  have HG: ∀w',Below wb.heap.size wb w'→Hid (Calls Tryz.prog 56 #[.agg #[.int .i64 p.ki,.slice v.pp p.np v.pc,.slice v.tp p.nq v.tc,.slice v.sp p.ns v.sc,.int .u64 p.sd,.int .u64 p.lk,.int .u64 p.en,.int .i64 p.bu,.int .i64 p.fu]] w' fun e w9=>e=.returned (.bool false)∧Below w'.heap.size w' w9):=fun w' hb=>callB (progsFit_any p v w' (HP.out.below hb)) ⟨fun e=>(by cases e),fun e=>absurd e hGP⟩
  go_enter Tryz.func19,Tryz.ntmps19
  go_wp2_with (first|(go_at_call 56;rw [HW.out];(with_reducible refine (HG wb (Below.refl _ _)).out.mono ?_);rintro e w1 ⟨rfl,hb1⟩;obtain ⟨⟨c0,c1,c2,c3⟩,c4,c5,c6,c7,c8⟩:=cells9 ((hb1.block _ (by omega)).trans hbox))|(go_at_call 57;(with_reducible refine (HT w1 hb1).out.mono ?_);rintro e w2 ⟨rfl,hb2'⟩;have hb2:Below wb.heap.size wb w2:=hb1.trans (hb2'.mono hb1.size);obtain ⟨⟨c0,c1,c2,c3⟩,c4,c5,c6,c7,c8⟩:=cells9 ((hb2.block _ (by omega)).trans hbox))|(go_at_call 58;(with_reducible refine (HS w2 hb2).out.mono ?_);rintro e w3 ⟨rfl,hb3'⟩;have hb3:Below wb.heap.size wb w3:=hb2.trans (hb3'.mono hb2.size);obtain ⟨⟨c0,c1,c2,c3⟩,c4,c5,c6,c7,c8⟩:=cells9 ((hb3.block _ (by omega)).trans hbox)))
  go_ret
  first|(refine ⟨_,rfl,HV.out,?_⟩;first|exact hb0.trans (hb3.mono hb0.size)|exact hb0.trans (hb2.mono hb0.size)|exact hb0.trans (hb1.mono hb0.size)|(rw [HW.out];exact hb0))
 by_cases hGT:GT p
 case neg=>
  have HV:Hid (VC p 121):=.inr ⟨hki,.inr ⟨hGP,.inl ⟨hGT,rfl⟩⟩⟩
  clear hc0
  have HG: ∀w',Below wb.heap.size wb w'→Hid (Calls Tryz.prog 56 #[.agg #[.int .i64 p.ki,.slice v.pp p.np v.pc,.slice v.tp p.nq v.tc,.slice v.sp p.ns v.sc,.int .u64 p.sd,.int .u64 p.lk,.int .u64 p.en,.int .i64 p.bu,.int .i64 p.fu]] w' fun e w9=>e=.returned (.bool true)∧Below w'.heap.size w' w9):=fun w' hb=>callB (progsFit_any p v w' (HP.out.below hb)) ⟨fun _=>hGP,fun _=>rfl⟩
  have HT: ∀w',Below wb.heap.size wb w'→Hid (Calls Tryz.prog 57 #[.agg #[.int .i64 p.ki,.slice v.pp p.np v.pc,.slice v.tp p.nq v.tc,.slice v.sp p.ns v.sc,.int .u64 p.sd,.int .u64 p.lk,.int .u64 p.en,.int .i64 p.bu,.int .i64 p.fu]] w' fun e w9=>e=.returned (.bool false)∧Below w'.heap.size w' w9):=fun w' hb=>callB (partsFit_any p v w' (HP.out.below hb)) ⟨fun e=>(by cases e),fun e=>absurd e hGT⟩
  go_enter Tryz.func19,Tryz.ntmps19
  go_wp2_with (first|(go_at_call 56;rw [HW.out];(with_reducible refine (HG wb (Below.refl _ _)).out.mono ?_);rintro e w1 ⟨rfl,hb1⟩;obtain ⟨⟨c0,c1,c2,c3⟩,c4,c5,c6,c7,c8⟩:=cells9 ((hb1.block _ (by omega)).trans hbox))|(go_at_call 57;(with_reducible refine (HT w1 hb1).out.mono ?_);rintro e w2 ⟨rfl,hb2'⟩;have hb2:Below wb.heap.size wb w2:=hb1.trans (hb2'.mono hb1.size);obtain ⟨⟨c0,c1,c2,c3⟩,c4,c5,c6,c7,c8⟩:=cells9 ((hb2.block _ (by omega)).trans hbox))|(go_at_call 58;(with_reducible refine (HS w2 hb2).out.mono ?_);rintro e w3 ⟨rfl,hb3'⟩;have hb3:Below wb.heap.size wb w3:=hb2.trans (hb3'.mono hb2.size);obtain ⟨⟨c0,c1,c2,c3⟩,c4,c5,c6,c7,c8⟩:=cells9 ((hb3.block _ (by omega)).trans hbox)))
  go_ret
  first|(refine ⟨_,rfl,HV.out,?_⟩;first|exact hb0.trans (hb3.mono hb0.size)|exact hb0.trans (hb2.mono hb0.size)|exact hb0.trans (hb1.mono hb0.size)|(rw [HW.out];exact hb0))
 by_cases hGS:GS p
 case neg=>
  have HV:Hid (VC p 122):=.inr ⟨hki,.inr ⟨hGP,.inr ⟨hGT,.inl ⟨hGS,rfl⟩⟩⟩⟩
  clear hc0
  have HG: ∀w',Below wb.heap.size wb w'→Hid (Calls Tryz.prog 56 #[.agg #[.int .i64 p.ki,.slice v.pp p.np v.pc,.slice v.tp p.nq v.tc,.slice v.sp p.ns v.sc,.int .u64 p.sd,.int .u64 p.lk,.int .u64 p.en,.int .i64 p.bu,.int .i64 p.fu]] w' fun e w9=>e=.returned (.bool true)∧Below w'.heap.size w' w9):=fun w' hb=>callB (progsFit_any p v w' (HP.out.below hb)) ⟨fun _=>hGP,fun _=>rfl⟩
  have HT: ∀w',Below wb.heap.size wb w'→Hid (Calls Tryz.prog 57 #[.agg #[.int .i64 p.ki,.slice v.pp p.np v.pc,.slice v.tp p.nq v.tc,.slice v.sp p.ns v.sc,.int .u64 p.sd,.int .u64 p.lk,.int .u64 p.en,.int .i64 p.bu,.int .i64 p.fu]] w' fun e w9=>e=.returned (.bool true)∧Below w'.heap.size w' w9):=fun w' hb=>callB (partsFit_any p v w' (HP.out.below hb)) ⟨fun _=>hGT,fun _=>rfl⟩
  have HS: ∀w',Below wb.heap.size wb w'→Hid (Calls Tryz.prog 58 #[.agg #[.int .i64 p.ki,.slice v.pp p.np v.pc,.slice v.tp p.nq v.tc,.slice v.sp p.ns v.sc,.int .u64 p.sd,.int .u64 p.lk,.int .u64 p.en,.int .i64 p.bu,.int .i64 p.fu]] w' fun e w9=>e=.returned (.bool false)∧Below w'.heap.size w' w9):=fun w' hb=>callB (startsFit_any p v w' (HP.out.below hb)) ⟨fun e=>(by cases e),fun e=>absurd e hGS⟩
  go_enter Tryz.func19,Tryz.ntmps19
  go_wp2_with (first|(go_at_call 56;rw [HW.out];(with_reducible refine (HG wb (Below.refl _ _)).out.mono ?_);rintro e w1 ⟨rfl,hb1⟩;obtain ⟨⟨c0,c1,c2,c3⟩,c4,c5,c6,c7,c8⟩:=cells9 ((hb1.block _ (by omega)).trans hbox))|(go_at_call 57;(with_reducible refine (HT w1 hb1).out.mono ?_);rintro e w2 ⟨rfl,hb2'⟩;have hb2:Below wb.heap.size wb w2:=hb1.trans (hb2'.mono hb1.size);obtain ⟨⟨c0,c1,c2,c3⟩,c4,c5,c6,c7,c8⟩:=cells9 ((hb2.block _ (by omega)).trans hbox))|(go_at_call 58;(with_reducible refine (HS w2 hb2).out.mono ?_);rintro e w3 ⟨rfl,hb3'⟩;have hb3:Below wb.heap.size wb w3:=hb2.trans (hb3'.mono hb2.size);obtain ⟨⟨c0,c1,c2,c3⟩,c4,c5,c6,c7,c8⟩:=cells9 ((hb3.block _ (by omega)).trans hbox)))
  go_ret
  first|(refine ⟨_,rfl,HV.out,?_⟩;first|exact hb0.trans (hb3.mono hb0.size)|exact hb0.trans (hb2.mono hb0.size)|exact hb0.trans (hb1.mono hb0.size)|(rw [HW.out];exact hb0))
 by_cases hlk:p.lk=0
 case pos=>
  have l0:(p.lk==0)=true:=by simpa using hlk
  have HV:Hid (VC p 123):=.inr ⟨hki,.inr ⟨hGP,.inr ⟨hGT,.inr ⟨hGS,.inl ⟨hlk,rfl⟩⟩⟩⟩⟩
  clear hc0 hlk
  have HG: ∀w',Below wb.heap.size wb w'→Hid (Calls Tryz.prog 56 #[.agg #[.int .i64 p.ki,.slice v.pp p.np v.pc,.slice v.tp p.nq v.tc,.slice v.sp p.ns v.sc,.int .u64 p.sd,.int .u64 p.lk,.int .u64 p.en,.int .i64 p.bu,.int .i64 p.fu]] w' fun e w9=>e=.returned (.bool true)∧Below w'.heap.size w' w9):=fun w' hb=>callB (progsFit_any p v w' (HP.out.below hb)) ⟨fun _=>hGP,fun _=>rfl⟩
  have HT: ∀w',Below wb.heap.size wb w'→Hid (Calls Tryz.prog 57 #[.agg #[.int .i64 p.ki,.slice v.pp p.np v.pc,.slice v.tp p.nq v.tc,.slice v.sp p.ns v.sc,.int .u64 p.sd,.int .u64 p.lk,.int .u64 p.en,.int .i64 p.bu,.int .i64 p.fu]] w' fun e w9=>e=.returned (.bool true)∧Below w'.heap.size w' w9):=fun w' hb=>callB (partsFit_any p v w' (HP.out.below hb)) ⟨fun _=>hGT,fun _=>rfl⟩
  have HS: ∀w',Below wb.heap.size wb w'→Hid (Calls Tryz.prog 58 #[.agg #[.int .i64 p.ki,.slice v.pp p.np v.pc,.slice v.tp p.nq v.tc,.slice v.sp p.ns v.sc,.int .u64 p.sd,.int .u64 p.lk,.int .u64 p.en,.int .i64 p.bu,.int .i64 p.fu]] w' fun e w9=>e=.returned (.bool true)∧Below w'.heap.size w' w9):=fun w' hb=>callB (startsFit_any p v w' (HP.out.below hb)) ⟨fun _=>hGS,fun _=>rfl⟩
  go_enter Tryz.func19,Tryz.ntmps19
  go_wp2_with (first|(go_at_call 56;rw [HW.out];(with_reducible refine (HG wb (Below.refl _ _)).out.mono ?_);rintro e w1 ⟨rfl,hb1⟩;obtain ⟨⟨c0,c1,c2,c3⟩,c4,c5,c6,c7,c8⟩:=cells9 ((hb1.block _ (by omega)).trans hbox))|(go_at_call 57;(with_reducible refine (HT w1 hb1).out.mono ?_);rintro e w2 ⟨rfl,hb2'⟩;have hb2:Below wb.heap.size wb w2:=hb1.trans (hb2'.mono hb1.size);obtain ⟨⟨c0,c1,c2,c3⟩,c4,c5,c6,c7,c8⟩:=cells9 ((hb2.block _ (by omega)).trans hbox))|(go_at_call 58;(with_reducible refine (HS w2 hb2).out.mono ?_);rintro e w3 ⟨rfl,hb3'⟩;have hb3:Below wb.heap.size wb w3:=hb2.trans (hb3'.mono hb2.size);obtain ⟨⟨c0,c1,c2,c3⟩,c4,c5,c6,c7,c8⟩:=cells9 ((hb3.block _ (by omega)).trans hbox)))
  go_ret
  first|(refine ⟨_,rfl,HV.out,?_⟩;first|exact hb0.trans (hb3.mono hb0.size)|exact hb0.trans (hb2.mono hb0.size)|exact hb0.trans (hb1.mono hb0.size)|(rw [HW.out];exact hb0))
 have l0:(p.lk==0)=false:=by simpa using hlk
 by_cases hbu:p.bu<0∨4096<p.bu
 ·by_cases hb9:p.bu<0
  ·have b0:decide (p.bu<0)=true:=by simp;omega
   have HV:Hid (VC p 124):=.inr ⟨hki,.inr ⟨hGP,.inr ⟨hGT,.inr ⟨hGS,.inr ⟨hlk,.inl ⟨hbu,rfl⟩⟩⟩⟩⟩⟩
   clear hc0
   have HG: ∀w',Below wb.heap.size wb w'→Hid (Calls Tryz.prog 56 #[.agg #[.int .i64 p.ki,.slice v.pp p.np v.pc,.slice v.tp p.nq v.tc,.slice v.sp p.ns v.sc,.int .u64 p.sd,.int .u64 p.lk,.int .u64 p.en,.int .i64 p.bu,.int .i64 p.fu]] w' fun e w9=>e=.returned (.bool true)∧Below w'.heap.size w' w9):=fun w' hb=>callB (progsFit_any p v w' (HP.out.below hb)) ⟨fun _=>hGP,fun _=>rfl⟩
   have HT: ∀w',Below wb.heap.size wb w'→Hid (Calls Tryz.prog 57 #[.agg #[.int .i64 p.ki,.slice v.pp p.np v.pc,.slice v.tp p.nq v.tc,.slice v.sp p.ns v.sc,.int .u64 p.sd,.int .u64 p.lk,.int .u64 p.en,.int .i64 p.bu,.int .i64 p.fu]] w' fun e w9=>e=.returned (.bool true)∧Below w'.heap.size w' w9):=fun w' hb=>callB (partsFit_any p v w' (HP.out.below hb)) ⟨fun _=>hGT,fun _=>rfl⟩
   have HS: ∀w',Below wb.heap.size wb w'→Hid (Calls Tryz.prog 58 #[.agg #[.int .i64 p.ki,.slice v.pp p.np v.pc,.slice v.tp p.nq v.tc,.slice v.sp p.ns v.sc,.int .u64 p.sd,.int .u64 p.lk,.int .u64 p.en,.int .i64 p.bu,.int .i64 p.fu]] w' fun e w9=>e=.returned (.bool true)∧Below w'.heap.size w' w9):=fun w' hb=>callB (startsFit_any p v w' (HP.out.below hb)) ⟨fun _=>hGS,fun _=>rfl⟩
   go_enter Tryz.func19,Tryz.ntmps19
   go_wp2_with (first|(go_at_call 56;rw [HW.out];(with_reducible refine (HG wb (Below.refl _ _)).out.mono ?_);rintro e w1 ⟨rfl,hb1⟩;obtain ⟨⟨c0,c1,c2,c3⟩,c4,c5,c6,c7,c8⟩:=cells9 ((hb1.block _ (by omega)).trans hbox))|(go_at_call 57;(with_reducible refine (HT w1 hb1).out.mono ?_);rintro e w2 ⟨rfl,hb2'⟩;have hb2:Below wb.heap.size wb w2:=hb1.trans (hb2'.mono hb1.size);obtain ⟨⟨c0,c1,c2,c3⟩,c4,c5,c6,c7,c8⟩:=cells9 ((hb2.block _ (by omega)).trans hbox))|(go_at_call 58;(with_reducible refine (HS w2 hb2).out.mono ?_);rintro e w3 ⟨rfl,hb3'⟩;have hb3:Below wb.heap.size wb w3:=hb2.trans (hb3'.mono hb2.size);obtain ⟨⟨c0,c1,c2,c3⟩,c4,c5,c6,c7,c8⟩:=cells9 ((hb3.block _ (by omega)).trans hbox)))
   go_ret
   first|(refine ⟨_,rfl,HV.out,?_⟩;first|exact hb0.trans (hb3.mono hb0.size)|exact hb0.trans (hb2.mono hb0.size)|exact hb0.trans (hb1.mono hb0.size)|(rw [HW.out];exact hb0))
  ·have b0:decide (p.bu<0)=false:=by simp;omega
   have b1:decide ((4096:Int)<p.bu)=true:=by simp;omega
   have HV:Hid (VC p 124):=.inr ⟨hki,.inr ⟨hGP,.inr ⟨hGT,.inr ⟨hGS,.inr ⟨hlk,.inl ⟨hbu,rfl⟩⟩⟩⟩⟩⟩
   clear hc0
   have HG: ∀w',Below wb.heap.size wb w'→Hid (Calls Tryz.prog 56 #[.agg #[.int .i64 p.ki,.slice v.pp p.np v.pc,.slice v.tp p.nq v.tc,.slice v.sp p.ns v.sc,.int .u64 p.sd,.int .u64 p.lk,.int .u64 p.en,.int .i64 p.bu,.int .i64 p.fu]] w' fun e w9=>e=.returned (.bool true)∧Below w'.heap.size w' w9):=fun w' hb=>callB (progsFit_any p v w' (HP.out.below hb)) ⟨fun _=>hGP,fun _=>rfl⟩
   have HT: ∀w',Below wb.heap.size wb w'→Hid (Calls Tryz.prog 57 #[.agg #[.int .i64 p.ki,.slice v.pp p.np v.pc,.slice v.tp p.nq v.tc,.slice v.sp p.ns v.sc,.int .u64 p.sd,.int .u64 p.lk,.int .u64 p.en,.int .i64 p.bu,.int .i64 p.fu]] w' fun e w9=>e=.returned (.bool true)∧Below w'.heap.size w' w9):=fun w' hb=>callB (partsFit_any p v w' (HP.out.below hb)) ⟨fun _=>hGT,fun _=>rfl⟩
   have HS: ∀w',Below wb.heap.size wb w'→Hid (Calls Tryz.prog 58 #[.agg #[.int .i64 p.ki,.slice v.pp p.np v.pc,.slice v.tp p.nq v.tc,.slice v.sp p.ns v.sc,.int .u64 p.sd,.int .u64 p.lk,.int .u64 p.en,.int .i64 p.bu,.int .i64 p.fu]] w' fun e w9=>e=.returned (.bool true)∧Below w'.heap.size w' w9):=fun w' hb=>callB (startsFit_any p v w' (HP.out.below hb)) ⟨fun _=>hGS,fun _=>rfl⟩
   go_enter Tryz.func19,Tryz.ntmps19
   go_wp2_with (first|(go_at_call 56;rw [HW.out];(with_reducible refine (HG wb (Below.refl _ _)).out.mono ?_);rintro e w1 ⟨rfl,hb1⟩;obtain ⟨⟨c0,c1,c2,c3⟩,c4,c5,c6,c7,c8⟩:=cells9 ((hb1.block _ (by omega)).trans hbox))|(go_at_call 57;(with_reducible refine (HT w1 hb1).out.mono ?_);rintro e w2 ⟨rfl,hb2'⟩;have hb2:Below wb.heap.size wb w2:=hb1.trans (hb2'.mono hb1.size);obtain ⟨⟨c0,c1,c2,c3⟩,c4,c5,c6,c7,c8⟩:=cells9 ((hb2.block _ (by omega)).trans hbox))|(go_at_call 58;(with_reducible refine (HS w2 hb2).out.mono ?_);rintro e w3 ⟨rfl,hb3'⟩;have hb3:Below wb.heap.size wb w3:=hb2.trans (hb3'.mono hb2.size);obtain ⟨⟨c0,c1,c2,c3⟩,c4,c5,c6,c7,c8⟩:=cells9 ((hb3.block _ (by omega)).trans hbox)))
   go_ret
   first|(refine ⟨_,rfl,HV.out,?_⟩;first|exact hb0.trans (hb3.mono hb0.size)|exact hb0.trans (hb2.mono hb0.size)|exact hb0.trans (hb1.mono hb0.size)|(rw [HW.out];exact hb0))
 have b0:decide (p.bu<0)=false:=by simp;omega
 have b1:decide ((4096:Int)<p.bu)=false:=by simp;omega
 by_cases hfu:p.fu<1∨4096<p.fu
 ·by_cases hf9:p.fu<1
  ·have f0:decide (p.fu<1)=true:=by simp;omega
   have HV:Hid (VC p 125):=.inr ⟨hki,.inr ⟨hGP,.inr ⟨hGT,.inr ⟨hGS,.inr ⟨hlk,.inr ⟨hbu,.inl ⟨hfu,rfl⟩⟩⟩⟩⟩⟩⟩
   clear hc0
   have HG: ∀w',Below wb.heap.size wb w'→Hid (Calls Tryz.prog 56 #[.agg #[.int .i64 p.ki,.slice v.pp p.np v.pc,.slice v.tp p.nq v.tc,.slice v.sp p.ns v.sc,.int .u64 p.sd,.int .u64 p.lk,.int .u64 p.en,.int .i64 p.bu,.int .i64 p.fu]] w' fun e w9=>e=.returned (.bool true)∧Below w'.heap.size w' w9):=fun w' hb=>callB (progsFit_any p v w' (HP.out.below hb)) ⟨fun _=>hGP,fun _=>rfl⟩
   have HT: ∀w',Below wb.heap.size wb w'→Hid (Calls Tryz.prog 57 #[.agg #[.int .i64 p.ki,.slice v.pp p.np v.pc,.slice v.tp p.nq v.tc,.slice v.sp p.ns v.sc,.int .u64 p.sd,.int .u64 p.lk,.int .u64 p.en,.int .i64 p.bu,.int .i64 p.fu]] w' fun e w9=>e=.returned (.bool true)∧Below w'.heap.size w' w9):=fun w' hb=>callB (partsFit_any p v w' (HP.out.below hb)) ⟨fun _=>hGT,fun _=>rfl⟩
   have HS: ∀w',Below wb.heap.size wb w'→Hid (Calls Tryz.prog 58 #[.agg #[.int .i64 p.ki,.slice v.pp p.np v.pc,.slice v.tp p.nq v.tc,.slice v.sp p.ns v.sc,.int .u64 p.sd,.int .u64 p.lk,.int .u64 p.en,.int .i64 p.bu,.int .i64 p.fu]] w' fun e w9=>e=.returned (.bool true)∧Below w'.heap.size w' w9):=fun w' hb=>callB (startsFit_any p v w' (HP.out.below hb)) ⟨fun _=>hGS,fun _=>rfl⟩
   go_enter Tryz.func19,Tryz.ntmps19
   go_wp2_with (first|(go_at_call 56;rw [HW.out];(with_reducible refine (HG wb (Below.refl _ _)).out.mono ?_);rintro e w1 ⟨rfl,hb1⟩;obtain ⟨⟨c0,c1,c2,c3⟩,c4,c5,c6,c7,c8⟩:=cells9 ((hb1.block _ (by omega)).trans hbox))|(go_at_call 57;(with_reducible refine (HT w1 hb1).out.mono ?_);rintro e w2 ⟨rfl,hb2'⟩;have hb2:Below wb.heap.size wb w2:=hb1.trans (hb2'.mono hb1.size);obtain ⟨⟨c0,c1,c2,c3⟩,c4,c5,c6,c7,c8⟩:=cells9 ((hb2.block _ (by omega)).trans hbox))|(go_at_call 58;(with_reducible refine (HS w2 hb2).out.mono ?_);rintro e w3 ⟨rfl,hb3'⟩;have hb3:Below wb.heap.size wb w3:=hb2.trans (hb3'.mono hb2.size);obtain ⟨⟨c0,c1,c2,c3⟩,c4,c5,c6,c7,c8⟩:=cells9 ((hb3.block _ (by omega)).trans hbox)))
   go_ret
   first|(refine ⟨_,rfl,HV.out,?_⟩;first|exact hb0.trans (hb3.mono hb0.size)|exact hb0.trans (hb2.mono hb0.size)|exact hb0.trans (hb1.mono hb0.size)|(rw [HW.out];exact hb0))
  ·have f0:decide (p.fu<1)=false:=by simp;omega
   have f1:decide ((4096:Int)<p.fu)=true:=by simp;omega
   have HV:Hid (VC p 125):=.inr ⟨hki,.inr ⟨hGP,.inr ⟨hGT,.inr ⟨hGS,.inr ⟨hlk,.inr ⟨hbu,.inl ⟨hfu,rfl⟩⟩⟩⟩⟩⟩⟩
   clear hc0
   have HG: ∀w',Below wb.heap.size wb w'→Hid (Calls Tryz.prog 56 #[.agg #[.int .i64 p.ki,.slice v.pp p.np v.pc,.slice v.tp p.nq v.tc,.slice v.sp p.ns v.sc,.int .u64 p.sd,.int .u64 p.lk,.int .u64 p.en,.int .i64 p.bu,.int .i64 p.fu]] w' fun e w9=>e=.returned (.bool true)∧Below w'.heap.size w' w9):=fun w' hb=>callB (progsFit_any p v w' (HP.out.below hb)) ⟨fun _=>hGP,fun _=>rfl⟩
   have HT: ∀w',Below wb.heap.size wb w'→Hid (Calls Tryz.prog 57 #[.agg #[.int .i64 p.ki,.slice v.pp p.np v.pc,.slice v.tp p.nq v.tc,.slice v.sp p.ns v.sc,.int .u64 p.sd,.int .u64 p.lk,.int .u64 p.en,.int .i64 p.bu,.int .i64 p.fu]] w' fun e w9=>e=.returned (.bool true)∧Below w'.heap.size w' w9):=fun w' hb=>callB (partsFit_any p v w' (HP.out.below hb)) ⟨fun _=>hGT,fun _=>rfl⟩
   have HS: ∀w',Below wb.heap.size wb w'→Hid (Calls Tryz.prog 58 #[.agg #[.int .i64 p.ki,.slice v.pp p.np v.pc,.slice v.tp p.nq v.tc,.slice v.sp p.ns v.sc,.int .u64 p.sd,.int .u64 p.lk,.int .u64 p.en,.int .i64 p.bu,.int .i64 p.fu]] w' fun e w9=>e=.returned (.bool true)∧Below w'.heap.size w' w9):=fun w' hb=>callB (startsFit_any p v w' (HP.out.below hb)) ⟨fun _=>hGS,fun _=>rfl⟩
   go_enter Tryz.func19,Tryz.ntmps19
   go_wp2_with (first|(go_at_call 56;rw [HW.out];(with_reducible refine (HG wb (Below.refl _ _)).out.mono ?_);rintro e w1 ⟨rfl,hb1⟩;obtain ⟨⟨c0,c1,c2,c3⟩,c4,c5,c6,c7,c8⟩:=cells9 ((hb1.block _ (by omega)).trans hbox))|(go_at_call 57;(with_reducible refine (HT w1 hb1).out.mono ?_);rintro e w2 ⟨rfl,hb2'⟩;have hb2:Below wb.heap.size wb w2:=hb1.trans (hb2'.mono hb1.size);obtain ⟨⟨c0,c1,c2,c3⟩,c4,c5,c6,c7,c8⟩:=cells9 ((hb2.block _ (by omega)).trans hbox))|(go_at_call 58;(with_reducible refine (HS w2 hb2).out.mono ?_);rintro e w3 ⟨rfl,hb3'⟩;have hb3:Below wb.heap.size wb w3:=hb2.trans (hb3'.mono hb2.size);obtain ⟨⟨c0,c1,c2,c3⟩,c4,c5,c6,c7,c8⟩:=cells9 ((hb3.block _ (by omega)).trans hbox)))
   go_ret
   first|(refine ⟨_,rfl,HV.out,?_⟩;first|exact hb0.trans (hb3.mono hb0.size)|exact hb0.trans (hb2.mono hb0.size)|exact hb0.trans (hb1.mono hb0.size)|(rw [HW.out];exact hb0))
 have f0:decide (p.fu<1)=false:=by simp;omega
 have f1:decide ((4096:Int)<p.fu)=false:=by simp;omega
 have HV:Hid (VC p 0):=.inr ⟨hki,.inr ⟨hGP,.inr ⟨hGT,.inr ⟨hGS,.inr ⟨hlk,.inr ⟨hbu,.inr ⟨hfu,rfl⟩⟩⟩⟩⟩⟩⟩
 clear hc0
 have HG: ∀w',Below wb.heap.size wb w'→Hid (Calls Tryz.prog 56 #[.agg #[.int .i64 p.ki,.slice v.pp p.np v.pc,.slice v.tp p.nq v.tc,.slice v.sp p.ns v.sc,.int .u64 p.sd,.int .u64 p.lk,.int .u64 p.en,.int .i64 p.bu,.int .i64 p.fu]] w' fun e w9=>e=.returned (.bool true)∧Below w'.heap.size w' w9):=fun w' hb=>callB (progsFit_any p v w' (HP.out.below hb)) ⟨fun _=>hGP,fun _=>rfl⟩
 have HT: ∀w',Below wb.heap.size wb w'→Hid (Calls Tryz.prog 57 #[.agg #[.int .i64 p.ki,.slice v.pp p.np v.pc,.slice v.tp p.nq v.tc,.slice v.sp p.ns v.sc,.int .u64 p.sd,.int .u64 p.lk,.int .u64 p.en,.int .i64 p.bu,.int .i64 p.fu]] w' fun e w9=>e=.returned (.bool true)∧Below w'.heap.size w' w9):=fun w' hb=>callB (partsFit_any p v w' (HP.out.below hb)) ⟨fun _=>hGT,fun _=>rfl⟩
 have HS: ∀w',Below wb.heap.size wb w'→Hid (Calls Tryz.prog 58 #[.agg #[.int .i64 p.ki,.slice v.pp p.np v.pc,.slice v.tp p.nq v.tc,.slice v.sp p.ns v.sc,.int .u64 p.sd,.int .u64 p.lk,.int .u64 p.en,.int .i64 p.bu,.int .i64 p.fu]] w' fun e w9=>e=.returned (.bool true)∧Below w'.heap.size w' w9):=fun w' hb=>callB (startsFit_any p v w' (HP.out.below hb)) ⟨fun _=>hGS,fun _=>rfl⟩
 go_enter Tryz.func19,Tryz.ntmps19
 go_wp2_with (first|(go_at_call 56;rw [HW.out];(with_reducible refine (HG wb (Below.refl _ _)).out.mono ?_);rintro e w1 ⟨rfl,hb1⟩;obtain ⟨⟨c0,c1,c2,c3⟩,c4,c5,c6,c7,c8⟩:=cells9 ((hb1.block _ (by omega)).trans hbox))|(go_at_call 57;(with_reducible refine (HT w1 hb1).out.mono ?_);rintro e w2 ⟨rfl,hb2'⟩;have hb2:Below wb.heap.size wb w2:=hb1.trans (hb2'.mono hb1.size);obtain ⟨⟨c0,c1,c2,c3⟩,c4,c5,c6,c7,c8⟩:=cells9 ((hb2.block _ (by omega)).trans hbox))|(go_at_call 58;(with_reducible refine (HS w2 hb2).out.mono ?_);rintro e w3 ⟨rfl,hb3'⟩;have hb3:Below wb.heap.size wb w3:=hb2.trans (hb3'.mono hb2.size);obtain ⟨⟨c0,c1,c2,c3⟩,c4,c5,c6,c7,c8⟩:=cells9 ((hb3.block _ (by omega)).trans hbox)))
 go_ret
 first|(refine ⟨_,rfl,HV.out,?_⟩;first|exact hb0.trans (hb3.mono hb0.size)|exact hb0.trans (hb2.mono hb0.size)|exact hb0.trans (hb1.mono hb0.size)|(rw [HW.out];exact hb0))
end Go.Proofs.YtecgecpgmpmkoaaGreat
namespace Go.Proofs.YtecgecpgmpmkoaaGreat
open Go.ChangeShapes Go.WideShapes Go.ChangeAt Go.RowKit
set_option linter.unusedVariables false
set_option linter.unusedSimpArgs false
theorem SimR.lowerR {W:World} {b b0 sb:Nat} {p:Pl} {A:Ab} {R:Rv} (h:SimR W b0 sb p A R) (hb:b≤b0):SimR W b sb p A R:=
 ⟨h.box,Nat.le_trans hb h.b,h.ps,h.st.lower hb,h.wd,h.q.lower hb,h.tr.lower hb,h.hp,h.inj,h.set,h.nb,h.n1,h.n2,h.n3,h.n4,h.n5,h.r0,h.r1⟩
noncomputable def fstA (p:Pl):Ab:=⟨p.K,fun j=>dz p.sd j,fun j=>(cntS p.S p.ns (j:Int):Nat),InX p.ns (evS p.S),0,fun _=>zeroE,0⟩
theorem cntS_mono (S:Nat→St) (d:Int) {i j:Nat} (h:i≤j):cntS S i d≤cntS S j d:=by
 induction j with
 |zero=>rw [show i=0 by omega];exact Nat.le_refl _
 |succ j ih=>
  by_cases e:i=j+1
  ·rw [e];exact Nat.le_refl _
  ·exact Nat.le_trans (ih (by omega)) (by show _≤cntS S j d+_;omega)
theorem cntS_lt (S:Nat→St) {i j:Nat} (h:i<j):cntS S i (S i).d<cntS S j (S i).d:=by
 have h1:=cntS_mono S (S i).d (show i+1≤j from h)
 have h2:cntS S (i+1) (S i).d=cntS S i (S i).d+1:=by show cntS S i (S i).d+(if (S i).d=(S i).d then 1 else 0)=_;rw [if_pos rfl]
 omega
theorem evS_key (S:Nat→St) {i j:Nat} (h1:(evS S i).s=(evS S j).s) (h2:(evS S i).q=(evS S j).q):i=j:=by
 have e1:(S i).d=(S j).d:=h1
 have e2:((cntS S i (S i).d:Nat):Int)=((cntS S j (S j).d:Nat):Int):=h2
 rcases Nat.lt_trichotomy i j with h|h|h
 ·have:=cntS_lt S h
  rw [e1] at this e2
  omega
 ·exact h
 ·have:=cntS_lt S h
  rw [←e1] at this e2
  omega
theorem u64_U (b:BitVec 64):u64ok (U b):=by
 unfold u64ok U
 have:=b.isLt
 omega
theorem fst_ok {p:Pl} (h:PlOk p):AOk2 p (fstA p):=by
 obtain ⟨g1,g2⟩:=h.gs
 refine ⟨fun j hj i=>h.k64 j hj i,fun j hj=>u64_U _,fun j hj=> ?_,fun x hx=> ?_,fun x y hx hy e1 e2=> ?_,by show ((0:Nat):Int)≤4096;omega⟩
 ·have:=cntS_le p.S p.ns (j:Int)
  show 0≤((cntS p.S p.ns (j:Int):Nat):Int)∧((cntS p.S p.ns (j:Int):Nat):Int)≤4611686018427387904+16*((0:Nat):Int)
  omega
 ·obtain ⟨i,hi,rfl⟩:=hx
  obtain ⟨k1,k2,k3⟩:=g2 i hi
  have hc:=cntS_lt p.S hi
  refine ⟨(h.s64 i hi).1,k1,⟨?_,?_⟩,k1,⟨k2,k3⟩,(h.s64 i hi).2⟩
  ·show 0≤((cntS p.S i (p.S i).d:Nat):Int)
   omega
  ·show ((cntS p.S i (p.S i).d:Nat):Int)<((cntS p.S p.ns (((p.S i).d.toNat:Nat):Int):Nat):Int)
   rw [show (((p.S i).d.toNat:Nat):Int)=(p.S i).d by omega]
   omega
 ·obtain ⟨i,hi,rfl⟩:=hx
  obtain ⟨j,hj,rfl⟩:=hy
  rw [evS_key p.S e1 e2]
def fstO (p:Pl) (d:Nat→Se):Pn:=⟨p.nq,fun j=>⟨none,p.nw j,0,dz p.sd j,(cntS p.S p.ns (j:Int):Nat)⟩,p.K,p.ns,d,0,fun _=>zeroE⟩
theorem fstO_ab {p:Pl} {d:Nat→Se} (hs:Stb klt 0 p.ns (evS p.S) d):abO (fstO p d)=fstA p:=by
 obtain ⟨f,g,hf⟩:=hs
 have hM:InX p.ns d=InX p.ns (evS p.S):=by
  funext x
  refine propext ⟨?_,?_⟩
  ·rintro ⟨i,hi,rfl⟩
   exact ⟨f i,(hf.inr i (Nat.zero_le _) hi).2,(hf.val i).symm⟩
  ·rintro ⟨i,hi,rfl⟩
   refine ⟨g i,?_,by rw [hf.val,hf.ri]⟩
   rcases Nat.lt_or_ge (g i) p.ns with h|h
   ·exact h
   ·have:=hf.out (g i) (by omega)
    rw [hf.ri] at this
    omega
 show (⟨p.K,fun j=>dz p.sd j,fun j=>((cntS p.S p.ns (j:Int):Nat):Int),InX p.ns d,0,fun _=>zeroE,0⟩:Ab)=_
 rw [hM]
 rfl
theorem fstO_hp {p:Pl} {d:Nat→Se} (h:Srt klt 0 p.ns d):Hp p.ns d:=fun i h0 hi=>h (par i) i (Nat.zero_le _) (by unfold par;omega) hi
theorem fstO_inj {p:Pl} {d:Nat→Se} (hs:Stb klt 0 p.ns (evS p.S) d):Inj p.ns d:=fun i j hi hj e=>by
 obtain ⟨f,g,hf⟩:=hs
 rw [hf.val,hf.val] at e
 have:=evS_key p.S (congrArg Se.s e) (congrArg Se.q e)
 rw [←hf.li i,this,hf.li]
theorem VC.ok {p:Pl} (h:VC p 0):(0≤p.ki∧p.ki≤32)∧GP p∧GT p∧GS p∧p.lk≠0∧(0≤p.bu∧p.bu≤4096)∧1≤p.fu∧p.fu≤4096:=by
 unfold VC at h
 generalize GP p=A at h ⊢
 generalize GT p=B at h ⊢
 generalize GS p=C at h ⊢
 rcases h with ⟨a1,e⟩|⟨a1,⟨a2,e⟩|⟨a2,⟨a3,e⟩|⟨a3,⟨a4,e⟩|⟨a4,⟨a5,e⟩|⟨a5,⟨a6,e⟩|⟨a6,⟨a7,e⟩|⟨a7,e⟩⟩⟩⟩⟩⟩⟩
 all_goals first|(exfalso;revert e;decide)|skip
 exact ⟨by omega,a2,a3,a4,a5,by omega,by omega,by omega⟩
set_option maxRecDepth 100000 in
set_option maxHeartbeats 8000000 in
theorem begin_any (p:Pl) (v:PlV) (w:World) (h:PlAt w p v) (hr:RoomyL p) (c0:Int) (hc0:VC p c0):
  Calls Tryz.prog 44 #[.agg #[.int .i64 p.ki,.slice v.pp p.np v.pc,.slice v.tp p.nq v.tc,.slice v.sp p.ns v.sc,.int .u64 p.sd,.int .u64 p.lk,.int .u64 p.en,.int .i64 p.bu,.int .i64 p.fu]] w fun e w'=>(c0≠0∧e=.returned (.tuple #[.pointer none,.int .i64 c0])∧Below w.heap.size w w')∨(c0=0∧ ∃(sb:Nat) (R:Rv),e=.returned (.tuple #[.pointer (some ⟨sb,0,none⟩),.int .i64 0])∧SimR w' w.heap.size sb p (fstA p) R∧Below w.heap.size w w'):=by
 obtain ⟨wb,hwb⟩: ∃wb,w.alloc (.cells #[.int .i64 p.ki,.slice v.pp p.np v.pc,.slice v.tp p.nq v.tc,.slice v.sp p.ns v.sc,.int .u64 p.sd,.int .u64 p.lk,.int .u64 p.en,.int .i64 p.bu,.int .i64 p.fu] 27)=wb:=⟨_,rfl⟩
 obtain ⟨hb0,hbox,hsz⟩:=boxed _ _ _ hwb
 have HW:Hid (w.alloc (.cells #[.int .i64 p.ki,.slice v.pp p.np v.pc,.slice v.tp p.nq v.tc,.slice v.sp p.ns v.sc,.int .u64 p.sd,.int .u64 p.lk,.int .u64 p.en,.int .i64 p.bu,.int .i64 p.fu] 27)=wb):=hwb
 have hp:=h.below hb0
 have hl1:=lt_of_block hbox
 have KK: ∀w',Below wb.heap.size wb w'→Hid ((w'.cell? ⟨w.heap.size,0,none⟩=some (.int .i64 p.ki)∧w'.cell? ⟨w.heap.size,1,none⟩=some (.slice v.pp p.np v.pc)∧w'.cell? ⟨w.heap.size,2,none⟩=some (.slice v.tp p.nq v.tc)∧w'.cell? ⟨w.heap.size,3,none⟩=some (.slice v.sp p.ns v.sc))∧w'.cell? ⟨w.heap.size,4,none⟩=some (.int .u64 p.sd)∧w'.cell? ⟨w.heap.size,5,none⟩=some (.int .u64 p.lk)∧w'.cell? ⟨w.heap.size,6,none⟩=some (.int .u64 p.en)∧w'.cell? ⟨w.heap.size,7,none⟩=some (.int .i64 p.bu)∧w'.cell? ⟨w.heap.size,8,none⟩=some (.int .i64 p.fu)):=fun w' hb=>cells9 ((hb.block _ hl1).trans hbox)
 have HV:Calls Tryz.prog 19 #[.agg #[.int .i64 p.ki,.slice v.pp p.np v.pc,.slice v.tp p.nq v.tc,.slice v.sp p.ns v.sc,.int .u64 p.sd,.int .u64 p.lk,.int .u64 p.en,.int .i64 p.bu,.int .i64 p.fu]] wb fun e w'=>e=.returned (.int .i64 c0)∧Below wb.heap.size wb w':=by
  refine (valid_any p v wb hp).mono ?_
  rintro e w' ⟨c,rfl,h1,h2⟩
  rw [h1.one hc0]
  exact ⟨rfl,h2⟩
 have KP:=(KK wb (Below.refl _ _)).out
 have HB:Hid (Below w.heap.size w wb∧wb.heap.size=w.heap.size+1):=⟨hb0,hsz⟩
 by_cases hz:c0=0
 case neg=>
  have g0:(c0 !=0)=true:=by simpa using hz
  have HZ:Hid (c0≠0):=hz
  rw [←hwb] at KP
  clear hwb h hr hc0 hb0 hbox hsz hp hl1 hz KK
  go_enter Tryz.func44,Tryz.ntmps44
  go_wp2_with (go_at_call 19;rw [HW.out];(with_reducible refine HV.mono ?_);rintro e w1 ⟨rfl,hb1⟩)
  go_ret2
  exact .inl ⟨HZ.out,rfl,HB.out.1.trans (hb1.mono HB.out.1.size)⟩
 case pos=>
  subst hz
  obtain ⟨_,_,hT,hS,_⟩:=hc0.ok
  have HF: ∀W,Below wb.heap.size wb W→Hid (Calls Tryz.prog 59 #[.agg #[.int .i64 p.ki,.slice v.pp p.np v.pc,.slice v.tp p.nq v.tc,.slice v.sp p.ns v.sc,.int .u64 p.sd,.int .u64 p.lk,.int .u64 p.en,.int .i64 p.bu,.int .i64 p.fu]] W fun e w'=> ∃(q:Option Addr) (c:Nat) (q2:Option Addr) (c2:Nat) (d:Nat→Se),e=.returned (.agg #[.slice q p.nq c,.slice q2 p.ns c2,.slice none 0 0])∧PnAt w' (fstO p d) ⟨q,c,q2,c2,none,0⟩∧Stb klt 0 p.ns (evS p.S) d∧Srt klt 0 p.ns d∧Below W.heap.size W w'):=fun W hb=>by
   refine (firstPoint_any p v W (hp.below hb) hr hT hS).mono ?_
   rintro e w' ⟨q,c,A,q2,c2,d,rfl,h1,h2,h3,h4,h5,h6⟩
   exact ⟨q,c,q2,c2,d,rfl,⟨⟨A,fun j hj=>h2 j hj,h1⟩,h3,.inl rfl⟩,h4,h5,h6⟩
  have HG: ∀W,Below wb.heap.size wb W→ ∀(q:Option Addr) (c:Nat) (q2:Option Addr) (c2:Nat) (d:Nat→Se),PnAt W (fstO p d) ⟨q,c,q2,c2,none,0⟩→Stb klt 0 p.ns (evS p.S) d→Srt klt 0 p.ns d→Hid (Calls Tryz.prog 61 #[.agg #[.int .i64 p.ki,.slice v.pp p.np v.pc,.slice v.tp p.nq v.tc,.slice v.sp p.ns v.sc,.int .u64 p.sd,.int .u64 p.lk,.int .u64 p.en,.int .i64 p.bu,.int .i64 p.fu],.agg #[.slice q p.nq c,.slice q2 p.ns c2,.slice none 0 0]] W fun e w'=> ∃(sb:Nat) (R:Rv),e=.returned (.pointer (some ⟨sb,0,none⟩))∧SimR w' W.heap.size sb p (fstA p) R∧Below W.heap.size W w'):=fun W hb q c q2 c2 d h1 h2 h3=>by
   have h9:=simGo_any p v (fstO p d) ⟨q,c,q2,c2,none,0⟩ W (hp.below hb) hr hT h1 ⟨by have:=hr.nq;have:=hT.1;show p.nq*40≤_;omega,fun j hj=>hr.nw j hj,by have:=hS.1;show p.ns≤_;omega,by show 0≤_;omega⟩ rfl (fun _ _=>rfl) (fstO_hp h3) (fstO_inj h2) (by have:=hS.1;show p.ns+16*(4096-0)≤_;omega)
   rw [fstO_ab h2] at h9
   exact h9
  rw [←hwb] at KP
  clear hwb h hr hc0 hb0 hbox hsz hp hl1 hT hS
  go_enter Tryz.func44,Tryz.ntmps44
  go_upto_region 4 with (go_at_call 19;rw [HW.out];(with_reducible refine HV.mono ?_);rintro e w1 ⟨rfl,hb1⟩)
  have hbd:Below wb.heap.size wb w1.drew:=hb1.trans (((Below.refl _ w1).drew).mono hb1.size)
  have KP0:=(KK w1.drew hbd).out
  clear KP
  go_region_held3 (fun w'=>((w'.cell? ⟨w.heap.size,0,none⟩=some (.int .i64 p.ki)∧w'.cell? ⟨w.heap.size,1,none⟩=some (.slice v.pp p.np v.pc)∧w'.cell? ⟨w.heap.size,2,none⟩=some (.slice v.tp p.nq v.tc)∧w'.cell? ⟨w.heap.size,3,none⟩=some (.slice v.sp p.ns v.sc))∧w'.cell? ⟨w.heap.size,4,none⟩=some (.int .u64 p.sd)∧w'.cell? ⟨w.heap.size,5,none⟩=some (.int .u64 p.lk)∧w'.cell? ⟨w.heap.size,6,none⟩=some (.int .u64 p.en)∧w'.cell? ⟨w.heap.size,7,none⟩=some (.int .i64 p.bu)∧w'.cell? ⟨w.heap.size,8,none⟩=some (.int .i64 p.fu))) (first|with_reducible exact KP0|with_reducible exact KP1|with_reducible exact KP2|go_keep) (first|(go_at_call 59;(with_reducible refine (HF w1.drew hbd).out.mono ?_);rintro e w2 ⟨q,c,q2,c2,d,rfl,hs1,hs2,hs3,hb2⟩;have hw2:Below wb.heap.size wb w2:=hbd.trans (hb2.mono hbd.size);have KP1:=(KK w2 hw2).out;have HGG:=(HG w2 hw2 q c q2 c2 d hs1 hs2 hs3).out;clear hs1 hs2 hs3 hb2)|(go_at_call 61;(with_reducible refine HGG.mono ?_);rintro e w3 ⟨sb,R,rfl,hs4,hb4⟩;have hw3:Below wb.heap.size wb w3:=hw2.trans (hb4.mono hw2.size);have KP2:=(KK w3 hw3).out;have H4:Hid (SimR w3 w2.heap.size sb p (fstA p) R):=hs4;clear hs4 hb4))
  all_goals (
   go_wp2_with fail
   go_ret2
   have hbw:Below w.heap.size w w3:=HB.out.1.trans (hw3.mono HB.out.1.size)
   have hw2':Below w.heap.size w w2:=HB.out.1.trans (hw2.mono HB.out.1.size)
   exact .inr ⟨trivial,sb,R,rfl,H4.out.lowerR hw2'.size,hbw⟩)
end Go.Proofs.YtecgecpgmpmkoaaGreat
