import Derived.Test.YtecgecpgmpmkoaaGreatHM13
import Derived.WalkMore
import Derived.Test.YtecgecpgmpmkoaaGreatHQ0
import Derived.Deep.MidRow
import Derived.Laws.NewBlocks
namespace Go.Proofs.YtecgecpgmpmkoaaGreat
open Go.ChangeShapes Go.WideShapes Go.ChangeAt Go.RowKit
set_option linter.unusedVariables false
def usedOf (fuel:Int):Option Value→Nat
 |some (.int .i64 x)=>(fuel-x).toNat
 |_=>0
theorem OkM.us {M:Mc} (h:OkM M):OkM (usM M):=⟨h.st,h.lo,h.wd,h.dice,h.sent,h.on⟩
theorem OkM.ov {M:Mc} (h:OkM M) (ov:Value):OkM (ovM M ov):=⟨h.st,h.lo,h.wd,h.dice,h.sent,h.on⟩
theorem Dp.le64 {P:Pg} {i:Nat} {d:Int} (h:Dp P i d):d≤64:=by
 cases h with
 |entry j hj h=>omega
 |next i d h hi hf he=>exact hf.2
 |jump i d h hi hf he=>exact hf.2
theorem doM_used (cl:Cl) (M:Mc) (o a b:Int):(doM cl M o a b).used=M.used:=by
 unfold doM
 by_cases h1:o=1
 ·rw [if_pos h1];rfl
 rw [if_neg h1]
 by_cases h2:o=2
 ·rw [if_pos h2];rfl
 rw [if_neg h2]
 by_cases h3:o=3
 ·rw [if_pos h3];rfl
 rw [if_neg h3]
 by_cases h4:o=4
 ·rw [if_pos h4];rfl
 rw [if_neg h4]
 by_cases h5:o=5
 ·rw [if_pos h5];rfl
 rw [if_neg h5]
 by_cases h6:o=6
 ·rw [if_pos h6];rfl
 rw [if_neg h6]
 by_cases h7:o=7
 ·rw [if_pos h7];rfl
 rw [if_neg h7]
 by_cases h8:o=8
 ·rw [if_pos h8];rfl
 rw [if_neg h8]
 by_cases h9:o=9
 ·rw [if_pos h9];rfl
 rw [if_neg h9]
 by_cases h10:o=10
 ·rw [if_pos h10];rfl
 rw [if_neg h10]
 by_cases h11:o=11
 ·rw [if_pos h11];rfl
 rw [if_neg h11]
 by_cases h12:o=12
 ·rw [if_pos h12];rfl
 rw [if_neg h12]
 by_cases h38:o=38
 ·rw [if_pos h38];rfl
 rw [if_neg h38]
 by_cases h37:o=37
 ·rw [if_pos h37];rfl
 rw [if_neg h37]
 by_cases h41:o=41
 ·rw [if_pos h41];(generalize waitV M.dice (topM M)=r;rcases r with _|r<;>rfl)
 rw [if_neg h41]
 by_cases h39:o=39
 ·rw [if_pos h39];rfl
 rw [if_neg h39]
 by_cases hs:o=23∨o=24∨o=25∨o=34
 ·rw [if_pos hs];rfl
 rw [if_neg hs]
 by_cases hp:isPairB o=true
 ·rw [if_pos hp];rfl
 rw [if_neg hp]
theorem runP_zero (P:Pg) (cl:Cl) (i:Nat) (M:Mc):runP P cl 0 i M=(200,M):=by unfold runP;rfl
theorem runP_stop {P:Pg} {cl:Cl} {k i:Nat} {M:Mc} (h:P.op i=0):runP P cl (k+1) i M=(0,usM M):=by
 conv=>lhs;unfold runP
 rw [if_pos h];rfl
theorem runP_jump {P:Pg} {cl:Cl} {k i:Nat} {M:Mc} (h:P.op i=35):runP P cl (k+1) i M=runP P cl k (P.a i).toNat (usM M):=by
 conv=>lhs;unfold runP
 rw [if_neg (by omega),if_pos h];rfl
theorem runP_ifz {P:Pg} {cl:Cl} {k i:Nat} {M:Mc} (h:P.op i=36):runP P cl (k+1) i M=runP P cl k (if topM M=0 then (P.a i).toNat else i+1) (popM (usM M)):=by
 conv=>lhs;unfold runP
 rw [if_neg (by omega),if_neg (by omega),if_pos h];rfl
theorem runP_fault {P:Pg} {cl:Cl} {k i:Nat} {M:Mc} (h:P.op i≠0∧P.op i≠35∧P.op i≠36) (hf:doF cl (usM M) (P.op i) (P.a i) (P.b i)≠0):runP P cl (k+1) i M=(doF cl (usM M) (P.op i) (P.a i) (P.b i),usM M):=by
 conv=>lhs;unfold runP
 rw [if_neg h.1,if_neg h.2.1,if_neg h.2.2]
 exact if_pos hf
theorem runP_go {P:Pg} {cl:Cl} {k i:Nat} {M:Mc} (h:P.op i≠0∧P.op i≠35∧P.op i≠36) (hf:doF cl (usM M) (P.op i) (P.a i) (P.b i)=0):runP P cl (k+1) i M=runP P cl k (i+1) (doM cl (usM M) (P.op i) (P.a i) (P.b i)):=by
 conv=>lhs;unfold runP
 rw [if_neg h.1,if_neg h.2.1,if_neg h.2.2]
 exact if_neg (fun hc=>hc hf)
def RR (w0 w':World) (base mb nw:Nat) (C:Nat→Value) (R:Int×Mc):Prop:=(R.1=0→ ∃ov,MW w0 w' base mb nw C (ovM R.2 ov))∧(R.1≠0→ ∃M2,MW w0 w' base mb nw C M2∧M2.used=R.2.used)
set_option maxRecDepth 100000 in
set_option maxHeartbeats 8000000 in
theorem run_any (P:Pg) (g:Gd P) (hs:sizedP P) (hnr: ¬Rch P P.n) (hbd: ¬BadD P) (hins:ferr (insE P) 0 P.n=0) (w0 w:World) (mb nw cc:Nat) (cp:Option Addr) (C:Nat→Value) (M0:Mc) (cl:Cl) (hC:CC C cl (.slice cp P.n cc)) (hcl:OkC cl) (hnw:P.words=nw) (hI:IAt w0 cp P.n P.op P.a P.b)
  (h:MW w0 w w0.heap.size mb nw C M0) (hok:OkM M0) (i0:Nat) (hi0:i0<P.n) (hd0:(M0.hi:Int)=dL P i0) (k0:Nat) (hk0:M0.used+k0=cl.fuel) (hu0:0≤M0.used) (hfu:cl.fuel≤4096) (hA64: ∀i,i<P.n→In64 (P.a i)):
  Calls Tryz.prog 110 #[.pointer (some ⟨mb,0,none⟩),.int .i64 i0] w fun e w'=>e=.returned (.int .i64 (runP P cl k0 i0 M0).1)∧RR w0 w' w0.heap.size mb nw C (runP P cl k0 i0 M0):=by
 have hsol:=sol_dL g hnr hbd
 have hn:P.n≤4096:=hs.2.2.1
 obtain h0|⟨cb,co,rfl,hcl2,hcc⟩:=hI
 ·omega
 obtain ⟨R,hR⟩: ∃R,runP P cl k0 i0 M0=R:=⟨_,rfl⟩
 rw [hR]
 go_enter Tryz.func110,Tryz.ntmps110
 go_wp2
 go_step3
 go_wp2
 go_step3
 go_wp2
 go_loopw [1,5] (fun x y wr=> ∃(i:Nat) (M:Mc) (ov:Value) (k:Nat),x=.int .i64 i∧y=.int .i64 200∧i<P.n∧MW w0 wr w0.heap.size mb nw C (ovM M ov)∧OkM M∧(M.hi:Int)=dL P i∧M.used+k=cl.fuel∧0≤M.used∧runP P cl k i M=R) (fun _ _ wr=>usedOf cl.fuel (wr.cell? ⟨mb,156,none⟩))
 case atStart=>exact ⟨i0,M0,M0.ov,k0,rfl,rfl,hi0,h,hok,hd0,hk0,hu0,hR⟩
 case round=>
  clear h hok hd0 hk0 hu0 hR hi0
  obtain ⟨i,M,ov,k,rfl,rfl,hi,h,hok,hd,hk,hu,hR⟩:=hrel
  have c156:wr.cell? ⟨mb,156,none⟩=some (.int .i64 M.used):=h.box.cell 156 (by omega)
  have c12:=h.fix (k:=12) (by decide) hC.fuel
  have hmu:usedOf cl.fuel (wr.cell? ⟨mb,156,none⟩)=k:=by rw [c156];show (cl.fuel-M.used).toNat=k;omega
  rcases k with _|k
  ·have dl:decide (M.used<cl.fuel)=false:=by simp;omega
   rw [runP_zero] at hR
   go_wp2
   go_quiet (fail)
   go_wp2
   try rw [Exit.noGoto_ret]
   go_ret
   rw [←hR]
   exact ⟨rfl,fun h=>(by cases h),fun _=>⟨_,h.later (below_drewNq _ _ _),rfl⟩⟩
  ·have dl:decide (M.used<cl.fuel)=true:=by simp;omega
   go_wp2
   go_quiet (fail)
   generalize hwq:World.drewN wr _=wq
   have hq:MW w0 wq w0.heap.size mb nw C (ovM M ov):=by rw [←hwq];exact h.later (below_drewNq _ _ _)
   clear hwq c156 c12 dl h
   have hlq:=hq.box.lt.1
   have x0:=(cell_below (a:=⟨cb,co+i*3,none⟩) hq.bel hcl2).trans (hcc i hi).1
   have x1:=(cell_below (a:=⟨cb,co+i*3+1,none⟩) hq.bel hcl2).trans (hcc i hi).2.1
   have x2:=(cell_below (a:=⟨cb,co+i*3+2,none⟩) hq.bel hcl2).trans (hcc i hi).2.2
   have c0:=hq.fix (k:=0) (by decide) hC.code
   have j0:(0:Int)≤(i:Int):=by omega
   have j1:(i:Int)<(P.n:Int):=by omega
   obtain ⟨wb,hwb⟩: ∃wb,wq.alloc (.cells #[.int .i64 (P.op i),.int .i64 (P.a i),.int .i64 (P.b i)] 139)=wb:=⟨_,rfl⟩
   obtain ⟨hbb,hbx,hsz⟩:=inbox wq (P.op i) (P.a i) (P.b i) wb hwb
   have hb:=hq.later hbb
   have c156:wb.cell? ⟨mb,156,none⟩=some (.int .i64 M.used):=hb.box.cell 156 (by omega)
   have f156:=hb.box.frozen 156
   have hws:MW w0 (wq.setCell ⟨mb,156,none⟩ (.int .i64 (M.used+1))) w0.heap.size mb nw C (ovM (usM M) ov):=hq.only (Only.set mb wq _ _) (hq.box.setUsed (M.used+1)) rfl rfl rfl rfl rfl
   have hss:(wq.setCell ⟨mb,156,none⟩ (.int .i64 (M.used+1))).heap.size=wq.heap.size:=by simp [World.setCell]
   obtain ⟨hbb2,hbx2,hsz2⟩:=inbox (wq.setCell ⟨mb,156,none⟩ (.int .i64 (M.used+1))) (P.op i) (P.a i) (P.b i) _ rfl
   rw [hss] at hbx2 hsz2
   have hwu:=hws.later hbb2
   obtain ⟨b0,b1,b2⟩:=cells3 hbx2
   rw [←hwb] at c156 f156
   obtain ⟨wu,hwuE⟩: ∃wu,((wq.setCell ⟨mb,156,none⟩ (.int .i64 (M.used+1))).alloc (.cells #[.int .i64 (P.op i),.int .i64 (P.a i),.int .i64 (P.b i)] 139))=wu:=⟨_,rfl⟩
   have HWU:Hid (((wq.setCell ⟨mb,156,none⟩ (.int .i64 (M.used+1))).alloc (.cells #[.int .i64 (P.op i),.int .i64 (P.a i),.int .i64 (P.b i)] 139))=wu):=hwuE
   have hwu2:=hwu
   rw [hwuE] at hwu2
   have hne1:dL P i≠ -1:=by omega
   have hfine:=hsol.fine i hi hne1
   have hins1:insErr P (P.op i) (P.a i) (P.b i)=0:=ferr_zero hins i (by omega) (by omega)
   have hdp:=hsol.dp i hi hne1
   have HD:Hid (Dp P i (dL P i)):=hdp
   have HF:Hid (fine P i (dL P i)):=hfine
   have HSOL:Hid (Sol P (dL P)):=hsol
   have hdj:Hid ((M.hi:Int)=dL P i):=hd
   have HR:Hid (runP P cl (k+1) i M=R):=hR
   have u1:0≤M.used+1:=by omega
   have u2:M.used≤4096:=by omega
   clear hwuE hbb hbx hsz hwb hcc hsol hfine hdp hd hR hne1 hb hbb2 hbx2 hws
   have hmes:usedOf cl.fuel (wr.cell? ⟨mb,156,none⟩)=k+1:=hmu
   have mesU: ∀(W:World) (M':Mc),MW w0 W w0.heap.size mb nw C M'→M'.used=M.used+1→usedOf cl.fuel (W.cell? ⟨mb,156,none⟩)<k+1:=fun W M' hW hu'=>by
    have e:W.cell? ⟨mb,156,none⟩=some (.int .i64 M'.used):=hW.box.cell 156 (by omega)
    rw [e]
    show (cl.fuel-M'.used).toNat<k+1
    rw [hu']
    omega
   by_cases h0:P.op i=0
   ·have d0:(P.op i==0)=true:=by simpa using h0
    have H0:Hid (P.op i=0):=h0
    clear h0
    go_wp2
    try rw [Exit.noGoto_ret]
    go_ret
    have hRR:=HR.out
    rw [runP_stop H0.out] at hRR
    rw [←hRR]
    exact ⟨rfl,fun _=>⟨ov,hwu⟩,fun h=>absurd rfl h⟩
   ·have d0:(P.op i==0)=false:=by simpa using h0
    have H0:Hid (P.op i≠0):=h0
    clear h0
    by_cases h35:P.op i=35
    ·have d35:(P.op i==35)=true:=by simpa using h35
     have H35:Hid (P.op i=35):=h35
     clear h35
     go_wp2
     have hj:jmp (P.op i)=true:=by rw [H35.out];rfl
     have ha:=g.a i hi hj
     have hRR:=HR.out
     rw [runP_jump H35.out] at hRR
     have hL:=HSOL.out.jump i hi (by have:=hdj.out;omega) hj
     refine ⟨⟨(P.a i).toNat,usM M,ov,k,by rw [Int.toNat_of_nonneg ha.1],rfl,by omega,hwu,hok.us,?_,?_,u1,hRR⟩,?_⟩
     ·show (M.hi:Int)=_
      rw [hL]
      unfold aft
      rw [H35.out,show pops 35=0 from rfl,show pushes 35=0 from rfl]
      have:=hdj.out
      omega
     ·show M.used+1+k=cl.fuel
      omega
     ·rw [hmes]
      exact mesU _ _ hwu rfl
    ·have d35:(P.op i==35)=false:=by simpa using h35
     have H35:Hid (P.op i≠35):=h35
     clear h35
     have hle64:M.hi≤64:=by have:=HD.out.le64;have:=hdj.out;omega
     have hlq2:wq.heap.size≠mb:=by omega
     have bu1:=b1
     rw [HWU.out] at bu1
     by_cases h36:P.op i=36
     ·have d36:(P.op i==36)=true:=by simpa using h36
      have hhi:1≤M.hi:=by
       have:=HF.out.1
       rw [h36,show pops 36=1 from rfl] at this
       have:=hdj.out
       omega
      have H36:Hid (P.op i=36):=h36
      clear h36
      have HP:=popW w0 wu w0.heap.size mb nw C (ovM (usM M) ov) hwu2 (by show 0<M.hi;omega) (by show M.hi≤64;omega)
      rw [show topM (ovM (usM M) ov)=topM M from rfl] at HP
      have hj:jmp (P.op i)=true:=by rw [H36.out];rfl
      have hen:ends (P.op i)=false:=by rw [H36.out];rfl
      have haft:Hid (aft P i (dL P i)=dL P i-1):=by
       show aft P i (dL P i)=_
       unfold aft
       rw [H36.out,show pops 36=1 from rfl,show pushes 36=0 from rfl]
       omega
      have HJ:Hid (jmp (P.op i)=true):=hj
      have HE:Hid (ends (P.op i)=false):=hen
      have HRR:Hid (runP P cl k (if topM M=0 then (P.a i).toNat else i+1) (popM (usM M))=R):=by have h3:=HR.out;rw [runP_ifz H36.out] at h3;exact h3
      clear hj hen
      by_cases ht:topM M=0
      ·have dt:(topM M==0)=true:=by simpa using ht
       have HT:Hid (topM M=0):=ht
       clear ht
       go_wp2_with ((go_at_call 154;rw [HWU.out];(with_reducible refine HP.mono ?_);rintro e w1 ⟨rfl,o1,m1⟩;have q1:=only_keeps o1 hlq2 bu1))
       have ha:=g.a i hi HJ.out
       have hL:=HSOL.out.jump i hi (by have:=hdj.out;omega) HJ.out
       have h3:=HRR.out
       rw [if_pos HT.out] at h3
       refine ⟨⟨(P.a i).toNat,popM (usM M),ov,k,by rw [Int.toNat_of_nonneg ha.1],rfl,by omega,m1,hok.us.pop,?_,?_,u1,h3⟩,?_⟩
       ·show ((M.hi-1:Nat):Int)=_
        rw [hL,haft.out]
        have:=hdj.out
        omega
       ·show M.used+1+k=cl.fuel
        omega
       ·rw [hmes]
        exact mesU _ _ m1 rfl
      ·have dt:(topM M==0)=false:=by simpa using ht
       have HT:Hid (topM M≠0):=ht
       clear ht
       go_wp2_with ((go_at_call 154;rw [HWU.out];(with_reducible refine HP.mono ?_);rintro e w1 ⟨rfl,o1,m1⟩;have q1:=only_keeps o1 hlq2 bu1))
       have hnx:=HSOL.out.eq g hnr (.next i _ HD.out hi HF.out HE.out)
       have h3:=HRR.out
       rw [if_neg HT.out] at h3
       refine ⟨⟨i+1,popM (usM M),ov,k,rfl,rfl,hnx.1,m1,hok.us.pop,?_,?_,u1,h3⟩,?_⟩
       ·show ((M.hi-1:Nat):Int)=_
        rw [hnx.2,haft.out]
        have:=hdj.out
        omega
       ·show M.used+1+k=cl.fuel
        omega
       ·rw [hmes]
        exact mesU _ _ m1 rfl
     ·have d36:(P.op i==36)=false:=by simpa using h36
      have hf1:pops (P.op i)≤M.hi:=by have:=HF.out.1;have:=hdj.out;omega
      have hf2:(M.hi:Int)-pops (P.op i)+pushes (P.op i)≤64:=by have:=HF.out.2;have:=hdj.out;omega
      have HDo:=do_any P hs w0 wu w0.heap.size mb nw C (ovM (usM M) ov) cl _ hC hcl (hok.us.ov ov) hnw (P.a i) (P.b i) (P.op i) ⟨H0.out,H35.out,h36⟩ hins1 hwu2 hf1 hf2 hle64
      rw [doF_ov,doM_ov] at HDo
      have HN:Hid (P.op i≠0∧P.op i≠35∧P.op i≠36):=⟨H0.out,H35.out,h36⟩
      have HOP:Hid (0≤P.op i∧P.op i<42):=g.op i hi
      have HF1:Hid (pops (P.op i)≤(M.hi:Int)):=hf1
      clear h36 hf1 hf2
      by_cases hz:doF cl (usM M) (P.op i) (P.a i) (P.b i)=0
      ·have HZ:Hid (doF cl (usM M) (P.op i) (P.a i) (P.b i)=0):=hz
       rw [hz] at HDo
       have H40:Hid (P.op i≠40):=fun e=>by
        have h4:=HZ.out
        rw [e] at h4
        unfold doF at h4
        rw [if_pos rfl] at h4
        cases h4
       clear hz
       go_wp2_with ((go_at_call 155;rw [HWU.out];(with_reducible refine HDo.mono ?_);rintro e w1 ⟨rfl,r1⟩))
       obtain ⟨ov2,m2⟩:=r1.1 rfl
       have hen:ends (P.op i)=false:=by
        have h1:=HN.out
        have h2:=H40.out
        unfold ends
        simp [h1.1,h1.2.1,h2]
       have hnx:=HSOL.out.eq g hnr (.next i _ HD.out hi HF.out hen)
       have h3:=HR.out
       rw [runP_go HN.out HZ.out] at h3
       have hhi:=doM_hi cl (usM M) (P.op i) (P.a i) (P.b i) HOP.out ⟨HN.out.1,HN.out.2.1,HN.out.2.2,H40.out⟩ HZ.out HF1.out
       have hus:(doM cl (usM M) (P.op i) (P.a i) (P.b i)).used=M.used+1:=doM_used cl (usM M) (P.op i) (P.a i) (P.b i)
       refine ⟨⟨i+1,doM cl (usM M) (P.op i) (P.a i) (P.b i),ov2,k,rfl,rfl,hnx.1,m2,doM_ok cl hcl (usM M) hok.us (P.op i) (P.a i) (P.b i) ?_ HZ.out ?_,?_,?_,?_,h3⟩,?_⟩
       ·exact hA64 i hi
       ·intro e38
        have h5:=ins_two hins1 (by rw [e38];rfl)
        rw [e38,show limI P 38=64 from rfl] at h5
        omega
       ·rw [hhi,hnx.2]
        unfold aft
        have:=hdj.out
        show (M.hi:Int)-_+_=_
        omega
       ·rw [hus];omega
       ·rw [hus];omega
       ·rw [hmes]
        exact mesU _ _ m2 hus
      ·have dz:(doF cl (usM M) (P.op i) (P.a i) (P.b i)==0)=false:=by simpa using hz
       have HZ:Hid (doF cl (usM M) (P.op i) (P.a i) (P.b i)≠0):=hz
       have h3:=HR.out
       rw [runP_fault HN.out hz] at h3
       have H3:Hid ((doF cl (usM M) (P.op i) (P.a i) (P.b i),usM M)=R):=h3
       clear hz h3
       go_wp2_with ((go_at_call 155;rw [HWU.out];(with_reducible refine HDo.mono ?_);rintro e w1 ⟨rfl,r1⟩))
       try rw [Exit.noGoto_ret]
       go_ret
       rw [←H3.out]
       exact ⟨rfl,fun h=>absurd h HZ.out,fun _=>r1.2 HZ.out⟩
end Go.Proofs.YtecgecpgmpmkoaaGreat
namespace Go.Proofs.YtecgecpgmpmkoaaGreat
open Go.ChangeShapes Go.WideShapes Go.ChangeAt Go.RowKit
set_option linter.unusedVariables false
def pairsL:List Value:= [.nilFunc,.nilFunc,.nilFunc,.nilFunc,.nilFunc,.nilFunc,.nilFunc,.nilFunc,.nilFunc,.nilFunc,.nilFunc,.nilFunc,.nilFunc,.func (.func 135) #[] #[],.func (.func 136) #[] #[],.func (.func 137) #[] #[],.func (.func 138) #[] #[],.func (.func 139) #[] #[],.func (.func 140) #[] #[],.func (.func 141) #[] #[],.func (.func 142) #[] #[],.func (.func 143) #[] #[],.func (.func 144) #[] #[],.nilFunc,.nilFunc,.nilFunc,.func (.func 145) #[] #[],.func (.func 147) #[] #[],.func (.func 148) #[] #[],.func (.func 149) #[] #[],.func (.func 150) #[] #[],.func (.func 151) #[] #[],.func (.func 152) #[] #[],.func (.func 153) #[] #[],.nilFunc,.nilFunc,.nilFunc,.nilFunc,.nilFunc,.nilFunc,.nilFunc,.nilFunc]
theorem pairsL_one:pairsL.toArray.all (·.oneCell')=true:=by kernel_rfl
theorem setRow_far (w:World) (g k:Nat) (cs:Array Value) (h:k≠g):(w.setRow g cs).heap[k]? =w.heap[k]? :=by
 unfold World.setRow
 simp [Array.getElem?_modify]
 intro e;exact absurd e.symm h
theorem setRow_below {B g:Nat} {w0 w:World} (cs:Array Value) (h:Below B w0 w) (hg:B≤g):Below B w0 (w.setRow g cs):=
 ⟨h.os,h.tape,h.output,by simp [World.setRow];exact h.size,fun k hk=>(setRow_far w g k cs (by omega)).trans (h.block k hk)⟩
set_option maxRecDepth 100000 in
set_option maxHeartbeats 4000000 in
theorem pairs_any (w:World):Calls Tryz.prog 108 #[] w fun e w'=>e=.returned (.agg pairsL.toArray)∧Below w.heap.size w w':=by
 have hinf:(Tryz.prog.info? 163).map (·.size)=some pairsL.toArray.size:=by kernel_rfl
 go_enter Tryz.func108,Tryz.ntmps108
 iterate 68 go_step
 refine wpList_store_row rfl 163 (.tmp 0) (.tmp 19) rfl w.heap.size pairsL.toArray rfl rfl 163 _ (World.alloc_heap_new w _) hinf rfl pairsL_one ?_
 repeat go_step
 have hold:=World.alloc_heap_new w (.cells (List.replicate 42 Value.nilFunc).toArray 163)
 refine bodyPost_ret_by (v:=.agg pairsL.toArray) (results_cell_row (p:=0) (ty:=163) rfl _ _ w.heap.size 163 _ (0,0) _ rfl (setRow_heap _ _ _ _ _ _ hold) Tryz.underlying163 rfl hinf) rfl ?_
 exact ⟨rfl,setRow_below _ ((Below.refl _ w).alloc (Nat.le_refl _) _) (Nat.le_refl _)⟩
end Go.Proofs.YtecgecpgmpmkoaaGreat
