import Derived.Test.YtecgecpgmpmkoaaGreatHSO7
namespace Go.Proofs.YtecgecpgmpmkoaaGreat
open Go.ChangeShapes Go.WideShapes Go.ChangeAt Go.RowKit
set_option linter.unusedVariables false
set_option linter.unusedSimpArgs false
variable {base g n cap:Nat} {c:Nat→Se}
theorem mul_lt' {p q B:Nat} (h:p<q):p*B+B≤q*B:=by
 have h1:=Nat.mul_le_mul_right B h
 rw [Nat.succ_mul] at h1
 exact h1
def BS (B n:Nat) (d:Nat→Se):Prop:= ∀p,Srt klt (p*B) (min (p*B+B) n) d
def FB (B q:Nat) (d:Nat→Se):Prop:= ∀p,p<q→Srt klt (p*B) (p*B+B) d
def RB2 (B a n:Nat) (d:Nat→Se):Prop:= ∀p,a≤p*B→Srt klt (p*B) (min (p*B+B) n) d
theorem FB.next {B q e:Nat} {d d':Nat→Se} (h:FB B q d) (hs:Stb klt (q*B) e d d') (hr:Srt klt (q*B) (q*B+B) d'):FB B (q+1) d':=fun p hp=>by
 by_cases e1:p=q
 ·rw [e1];exact hr
 ·have:=mul_lt' (B:=B) (show p<q by omega)
  exact (h p (by omega)).congr fun i i1 i2=>hs.same (by omega)
theorem FB.bs {B q n:Nat} {d:Nat→Se} (h:FB B q d) (hr:Srt klt (q*B) n d) (hn:n<q*B+B) (hq:q*B≤n):BS B n d:=fun p=>by
 rcases Nat.lt_trichotomy p q with x|x|x
 ·exact (h p x).sub (Nat.le_refl _) (Nat.min_le_left _ _)
 ·rw [x];exact hr.sub (Nat.le_refl _) (Nat.min_le_right _ _)
 ·have:=mul_lt' (B:=B) x
  exact Srt.small (by have:=Nat.min_le_right (p*B+B) n;omega)
theorem RB2.next {B a a' lo hi n:Nat} {d d':Nat→Se} (h:RB2 B a n d) (hs:Stb klt lo hi d d') (h1:hi≤a') (h2:a≤a'):RB2 B a' n d':=fun p hp=>(h p (by omega)).congr fun i i1 i2=>hs.same (by omega)
theorem two_mul' (q B:Nat):(2*q)*B=q*(2*B)∧(2*q+1)*B=q*(2*B)+B:=by
 have h1:(2*q)*B=q*(2*B):=by rw [Nat.mul_comm 2 q,Nat.mul_assoc]
 exact ⟨h1,by rw [Nat.succ_mul,h1]⟩
set_option maxRecDepth 100000 in
set_option maxHeartbeats 4000000 in
theorem stable_any (hn:n≤2932031007402) (W:World) (h:SRow W base g n cap c):Calls Tryz.prog 182 #[.slice (some ⟨g,0,none⟩) n cap,.int .i64 (n:Int),.func (.func 115) #[] #[]] W fun e W'=>e=.returned (.tuple #[])∧ ∃d,SRow W' base g n cap d∧Stb klt 0 n c d∧Srt klt 0 n d∧Kp g W W':=by
 have HH:Hid (SRow W base g n cap c):=h
 clear h
 go_enter Tryz.func182,Tryz.ntmps182
 go_upto_block 0 with fail
 go_cut [7,8] (fun x y wc=> ∃(q:Nat) (d:Nat→Se),x=.int .i64 ((q*20:Nat):Int)∧n<q*20+20∧q*20≤n∧SRow wc base g n cap d∧Kp g W wc∧Stb klt 0 n c d∧FB 20 q d)
 case first=>as_aux_lemma=>
  go_wp2_with fail
  go_loopw [7,8] (fun x y wr=> ∃(q a b:Nat) (d:Nat→Se),x=.int .i64 (a:Int)∧y=.int .i64 (b:Int)∧a=q*20∧b=q*20+20∧q*20≤n∧SRow wr base g n cap d∧Kp g W wr∧Stb klt 0 n c d∧FB 20 q d) (fun _ y _=>n+20-(intOf y).toNat)
  case atStart=>exact ⟨0,0,20,c,rfl,rfl,rfl,rfl,Nat.zero_le _,HH.out,Kp.refl _ _,Stb.refl _ _ _,fun p hp=>by omega⟩
  case round=>
   obtain ⟨q,a,b,d,rfl,rfl,ha,hb,hq,hr,hkp,hst,hfb⟩:=hrel
   by_cases hle:b≤n
   ·have dl:decide ((b:Int)≤(n:Int))=true:=by simp;omega
    have eb:IntKind.i64.wrap ((b:Int)+20)=((b+20:Nat):Int):=by rw [IntKind.wrap_i64];omega
    have HI:=isort_any (c:=d) a b (by omega) hle hn wr hr
    have HZ:Hid (Kp g W wr∧Stb klt 0 n c d∧FB 20 q d∧a=q*20∧b=q*20+20):=⟨hkp,hst,hfb,ha,hb⟩
    clear hr hkp hst hfb ha hb hq
    go_wp2_with (go_at_call 209;(with_reducible refine HI.mono ?_);rintro e9 w2 ⟨rfl,d2,h5,h6,h7,h8⟩;have H2:Hid (SRow w2 base g n cap d2∧Stb klt a b d d2∧Srt klt a b d2∧Kp g wr w2):=⟨h5,h6,h7,h8⟩;clear h5 h6 h7 h8)
    obtain ⟨z1,z2,z3,z4,z5⟩:=HZ.out
    have e6:=H2.out.2.1
    have e7:=H2.out.2.2.1
    rw [z4] at e6
    rw [z4,z5] at e7
    refine ⟨⟨q+1,b,b+20,d2,rfl,rfl,by omega,by omega,by omega,H2.out.1,z1.trans H2.out.2.2.2,z2.trans (H2.out.2.1.widen (Nat.zero_le _) hle),z3.next e6 e7⟩,by simp only [intOf];omega⟩
   ·have dl:decide ((b:Int)≤(n:Int))=false:=by simp;omega
    go_wp2_with fail
    go_meet
    exact ⟨q,d,by rw [ha],by omega,hq,hr,hkp,hst,hfb⟩
 case rest=>as_aux_lemma=>
  obtain ⟨q,d,rfl,hq1,hq2,hr,hkp,hst,hfb⟩:=hcut
  obtain ⟨a,ha⟩: ∃a,q*20=a:=⟨_,rfl⟩
  rw [ha] at hq1 hq2
  rw [ha]
  have HI:=isort_any (c:=d) a n hq2 (Nat.le_refl _) hn wc hr
  have HZ:Hid (Kp g W wc∧Stb klt 0 n c d∧FB 20 q d∧q*20=a):=⟨hkp,hst,hfb,ha⟩
  clear hr hkp hst hfb ha HH
  go_upto_block 2 with (go_at_call 209;(with_reducible refine HI.mono ?_);rintro e9 w2 ⟨rfl,d2,h5,h6,h7,h8⟩;have H2:Hid (SRow w2 base g n cap d2∧Stb klt a n d d2∧Srt klt a n d2∧Kp g wc w2):=⟨h5,h6,h7,h8⟩;clear h5 h6 h7 h8)
  obtain ⟨z1,z2,z3,z4⟩:=HZ.out
  have hbs:BS 20 n d2:=FB.bs (q:=q) (fun p hp=>by
   have:=mul_lt' (B:=20) hp
   exact (z3 p hp).congr fun i i1 i2=>H2.out.2.1.same (by omega)) (by rw [z4];exact H2.out.2.2.1) (by omega) (by omega)
  have HZ2:Hid (SRow w2 base g n cap d2∧Kp g W w2∧Stb klt 0 n c d2∧BS 20 n d2):=⟨H2.out.1,z1.trans H2.out.2.2.2,z2.trans (H2.out.2.1.widen (Nat.zero_le _) (Nat.le_refl _)),hbs⟩
  clear z1 z2 z3 z4 hbs HZ H2 HI
  go_wp2_with fail
  go_loopw [6] (fun x wr=> ∃(B:Nat) (d:Nat→Se),x=.int .i64 (B:Int)∧20≤B∧SRow wr base g n cap d∧Kp g W wr∧Stb klt 0 n c d∧BS B n d) (fun x _=>n-(intOf x).toNat)
  case atStart=>exact ⟨20,d2,rfl,Nat.le_refl _,HZ2.out.1,HZ2.out.2.1,HZ2.out.2.2.1,HZ2.out.2.2.2⟩
  case round=>
   obtain ⟨B,d,rfl,hB,hr,hkp,hst,hbs⟩:=hrel
   clear HZ2
   by_cases hlt:B<n
   ·have dl:decide ((B:Int)<(n:Int))=true:=by simp;omega
    obtain ⟨C,hC⟩: ∃C,2*B=C:=⟨_,rfl⟩
    have f1:IntKind.i64.wrap (2*(B:Int))=(C:Int):=by rw [IntKind.wrap_i64];omega
    have f2:IntKind.i64.wrap ((B:Int)*2)=(C:Int):=by rw [IntKind.wrap_i64];omega
    have HC:Hid (2*B=C):=hC
    have HZ:Hid (SRow wr base g n cap d∧Kp g W wr∧Stb klt 0 n c d∧BS B n d):=⟨hr,hkp,hst,hbs⟩
    clear hr hkp hst hbs hC
    go_upto_block 4 with fail
    go_cut [7,8] (fun x y wc=> ∃(q a:Nat) (d1:Nat→Se),x=.int .i64 (a:Int)∧q*C=a∧a≤n∧n<a+C∧SRow wc base g n cap d1∧Kp g W wc∧Stb klt 0 n c d1∧FB C q d1∧RB2 B a n d1)
    case first=>as_aux_lemma=>
     go_wp2_with fail
     go_loopw [7,8] (fun x y wr'=> ∃(q a b:Nat) (d1:Nat→Se),x=.int .i64 (a:Int)∧y=.int .i64 (b:Int)∧q*C=a∧a+C=b∧a≤n∧SRow wr' base g n cap d1∧Kp g W wr'∧Stb klt 0 n c d1∧FB C q d1∧RB2 B a n d1) (fun _ y _=>n+C-(intOf y).toNat)
     case atStart=>exact ⟨0,0,C,d,rfl,rfl,Nat.zero_mul _,Nat.zero_add _,Nat.zero_le _,HZ.out.1,HZ.out.2.1,HZ.out.2.2.1,fun p hp=>by omega,fun p _=>HZ.out.2.2.2 p⟩
     case round=>
      obtain ⟨q,a,b,d1,rfl,rfl,ha,hb,han,hr,hkp,hst,hfb,hrb⟩:=hrel
      by_cases hle:b≤n
      ·have dl2:decide ((b:Int)≤(n:Int))=true:=by simp;omega
       have hC:=HC.out
       obtain ⟨mm,hmm⟩: ∃mm,a+B=mm:=⟨_,rfl⟩
       have f3:IntKind.i64.wrap ((a:Int)+(B:Int))=(mm:Int):=by rw [IntKind.wrap_i64];omega
       have f4:IntKind.i64.wrap ((b:Int)+(C:Int))=((b+C:Nat):Int):=by rw [IntKind.wrap_i64];omega
       obtain ⟨t1,t2⟩:=two_mul' q B
       rw [hC,ha] at t1 t2
       have s1:Srt klt a mm d1:=by
        have:=hrb (2*q) (by omega)
        rw [t1] at this
        exact this.sub (Nat.le_refl _) (by omega)
       have s2:Srt klt mm b d1:=by
        have:=hrb (2*q+1) (by omega)
        rw [t2] at this
        exact this.sub (by omega) (by omega)
       have HS:=sym_any (base:=base) (g:=g) (cap:=cap) hn (b-a) a mm b d1 wr (Nat.le_refl _) (by omega) (by omega) hle s1 s2 hr
       have HZ3:Hid (Kp g W wr∧Stb klt 0 n c d1∧FB C q d1∧RB2 B a n d1∧q*C=a∧a+C=b):=⟨hkp,hst,hfb,hrb,ha,hb⟩
       clear hr hkp hst hfb hrb ha hb t1 t2 s1 s2 hC hmm
       go_wp2_with (go_at_call 210;(with_reducible refine HS.mono ?_);rintro e9 w2 ⟨rfl,d2,h5,h6,h7,h8⟩;have H2:Hid (SRow w2 base g n cap d2∧Stb klt a b d1 d2∧Srt klt a b d2∧Kp g wr w2):=⟨h5,h6,h7,h8⟩;clear h5 h6 h7 h8)
       obtain ⟨z1,z2,z3,z4,z5,z6⟩:=HZ3.out
       have e6:=H2.out.2.1
       have e7:=H2.out.2.2.1
       have hC:=HC.out
       refine ⟨⟨q+1,b,b+C,d2,rfl,rfl,by rw [Nat.succ_mul,z5,z6],rfl,hle,H2.out.1,z1.trans H2.out.2.2.2,z2.trans (e6.widen (Nat.zero_le _) hle),z3.next (by rw [z5];exact e6) (by rw [z5,z6];exact e7),z4.next e6 (Nat.le_refl _) (by omega)⟩,by simp only [intOf];omega⟩
      ·have dl2:decide ((b:Int)≤(n:Int))=false:=by simp;omega
       go_wp2_with fail
       go_meet
       exact ⟨q,a,d1,rfl,ha,han,by omega,hr,hkp,hst,hfb,hrb⟩
    case rest=>as_aux_lemma=>
     obtain ⟨q,a,d1,rfl,ha,han,hac,hr,hkp,hst,hfb,hrb⟩:=hcut
     clear HZ
     have hC:=HC.out
     obtain ⟨mm,hmm⟩: ∃mm,a+B=mm:=⟨_,rfl⟩
     have f3:IntKind.i64.wrap ((a:Int)+(B:Int))=(mm:Int):=by rw [IntKind.wrap_i64];omega
     obtain ⟨t1,t2⟩:=two_mul' q B
     rw [hC,ha] at t1 t2
     by_cases hmn:mm<n
     ·have dm:decide ((mm:Int)<(n:Int))=true:=by simp;omega
      have s1:Srt klt a mm d1:=by
       have:=hrb (2*q) (by omega)
       rw [t1] at this
       exact this.sub (Nat.le_refl _) (by omega)
      have s2:Srt klt mm n d1:=by
       have:=hrb (2*q+1) (by omega)
       rw [t2] at this
       exact this.sub (by omega) (by omega)
      have HS:=sym_any (base:=base) (g:=g) (cap:=cap) hn (n-a) a mm n d1 wc (Nat.le_refl _) (by omega) hmn (Nat.le_refl _) s1 s2 hr
      have HZ3:Hid (Kp g W wc∧Stb klt 0 n c d1∧FB C q d1∧q*C=a):=⟨hkp,hst,hfb,ha⟩
      clear hr hkp hst hfb hrb ha t1 t2 s1 s2 hC hmm
      go_wp2_with (go_at_call 210;(with_reducible refine HS.mono ?_);rintro e9 w2 ⟨rfl,d2,h5,h6,h7,h8⟩;have H2:Hid (SRow w2 base g n cap d2∧Stb klt a n d1 d2∧Srt klt a n d2∧Kp g wc w2):=⟨h5,h6,h7,h8⟩;clear h5 h6 h7 h8)
      obtain ⟨z1,z2,z3,z4⟩:=HZ3.out
      have hC:=HC.out
      have hb2:BS C n d2:=FB.bs (q:=q) (fun p hp=>by
       have:=mul_lt' (B:=C) hp
       exact (z3 p hp).congr fun i i1 i2=>H2.out.2.1.same (by omega)) (by rw [z4];exact H2.out.2.2.1) (by omega) (by omega)
      exact ⟨⟨C,d2,rfl,by omega,H2.out.1,z1.trans H2.out.2.2.2,z2.trans (H2.out.2.1.widen (Nat.zero_le _) (Nat.le_refl _)),hb2⟩,by simp only [intOf];omega⟩
     ·have dm:decide ((mm:Int)<(n:Int))=false:=by simp;omega
      have s1:Srt klt a n d1:=by
       have:=hrb (2*q) (by omega)
       rw [t1] at this
       exact this.sub (Nat.le_refl _) (by omega)
      have hb2:BS C n d1:=FB.bs (q:=q) hfb (by rw [ha];exact s1) (by omega) (by omega)
      have HZ3:Hid (SRow wc base g n cap d1∧Kp g W wc∧Stb klt 0 n c d1∧BS C n d1):=⟨hr,hkp,hst,hb2⟩
      clear hr hkp hst hfb hrb ha t1 t2 s1 hb2 hC hmm
      go_wp2_with fail
      have hC:=HC.out
      exact ⟨⟨C,d1,rfl,by omega,HZ3.out.1,HZ3.out.2.1,HZ3.out.2.2.1,HZ3.out.2.2.2⟩,by simp only [intOf];omega⟩
   ·have dl:decide ((B:Int)<(n:Int))=false:=by simp;omega
    go_wp2_with fail
    (first|go_end0|go_returns)
    have h0:=hbs 0
    rw [Nat.zero_mul] at h0
    exact ⟨rfl,d,hr,hst,h0.sub (Nat.le_refl _) (by omega),hkp⟩
set_option maxRecDepth 100000 in
theorem sortS_any (hn:n≤2932031007402) (W:World) (h:SRow W base g n cap c):Calls Tryz.prog 158 #[.slice (some ⟨g,0,none⟩) n cap,.func (.func 115) #[] #[]] W fun e W'=>e=.returned (.tuple #[])∧ ∃d,SRow W' base g n cap d∧Stb klt 0 n c d∧Srt klt 0 n d∧Kp g W W':=by
 have HS:=stable_any hn W h
 clear h
 go_enter Tryz.func158,Tryz.ntmps158
 go_wp2_with (go_at_call 182;(with_reducible refine HS.mono ?_);rintro e9 w2 ⟨rfl,h5⟩;have H2:Hid (∃d,SRow w2 base g n cap d∧Stb klt 0 n c d∧Srt klt 0 n d∧Kp g W w2):=h5;clear h5)
 (first|go_end0|go_returns)
 exact ⟨rfl,H2.out⟩
end Go.Proofs.YtecgecpgmpmkoaaGreat
namespace Go.Proofs.YtecgecpgmpmkoaaGreat
open Go.ChangeShapes Go.WideShapes Go.ChangeAt Go.RowKit
set_option linter.unusedVariables false
set_option linter.unusedSimpArgs false
theorem sinfo {i? :Option TypeInfo} {z:Value} {s b:Nat} (h:i?.map (fun i=>(i.zero,i.size,i.bytes))=some (some z,s,b)): ∃i,i? =some i∧i.zero=some z∧i.size=s∧i.bytes=b:=by
 cases i? with
 |none=>cases h
 |some i=>
  simp at h
  exact ⟨i,rfl,h.1,h.2.1,h.2.2⟩
theorem infoSE:(Tryz.prog.info? 54).map (fun i=>(i.zero,i.size,i.bytes))=some (some (.agg #[.int .u64 0,.int .i64 0,.int .u64 0,.int .i64 0,.int .i64 0,.int .i64 0]),6,48):=by kernel_rfl
def SIn (W:World) (p:Option Addr) (m:Nat) (X:Nat→Se):Prop:=m=0∨ ∃b o,p=some ⟨b,o,none⟩∧b<W.heap.size∧ ∀j,j<m*6→W.cell? ⟨b,o+j,none⟩=some (seF X j)
theorem SIn.below {W W':World} {p:Option Addr} {m:Nat} {X:Nat→Se} (h:SIn W p m X) (hb:Below W.heap.size W W'):SIn W' p m X:=by
 rcases h with h|⟨b,o,h1,h2,h3⟩
 ·exact .inl h
 ·exact .inr ⟨b,o,h1,Nat.lt_of_lt_of_le h2 hb.size,fun j hj=>(cell_below (a:=⟨b,o+j,none⟩) hb h2).trans (h3 j hj)⟩
theorem seF_one (X:Nat→Se) (j:Nat):(seF X j).oneCell'=true:=by
 unfold seF seC seL
 have:j % 6=0∨j % 6=1∨j % 6=2∨j % 6=3∨j % 6=4∨j % 6=5:=by omega
 rcases this with h|h|h|h|h|h<;>rw [h]<;>rfl
set_option maxRecDepth 100000 in
set_option maxHeartbeats 2000000 in
theorem sorted_any (p:Option Addr) (n cp:Nat) (X:Nat→Se) (hn:n≤2932031007402) (w:World) (hsrc:SIn w p n X):Calls Tryz.prog 114 #[.slice p n cp,.func (.func 115) #[] #[]] w fun e w'=> ∃g d,e=.returned (.slice (some ⟨g,0,none⟩) n n)∧SRow w' w.heap.size g n n d∧Stb klt 0 n X d∧Srt klt 0 n d∧Below w.heap.size w w':=by
 obtain ⟨i6,hi6,ha6,hb6,hc6⟩:=sinfo infoSE
 have hsz:(Tryz.prog.info? 54).map (·.size)=some 6:=by simp [hi6,hb6]
 have HS:Hid (SIn w p n X):=hsrc
 clear hsrc
 go_enter Tryz.func114,Tryz.ntmps114
 go_wp2_with (at_make;refine wpList_make_full _ rfl (.tmp 7) (.tmp 7) 35 rfl w.heap.size 54 i6 _ 6 Tryz.underlying35 hi6 ha6 hb6 .i64 .i64 n n n rfl rfl rfl rfl ?c1 ?c2 ?c3 ?_)
 case c1=>rw [hc6];omega
 case c2=>unfold maxLen;omega
 case c3=>exact Nat.le_refl _
 intro w1 hown hgrow
 have hb1:Below w.heap.size w w1:=(Below.refl _ _).grown hgrow (Nat.le_refl _) (by simp)
 have hO:=own_of_row hown
 have hs2:n=0∨ ∃ad,p=some ad∧ ∀j,j<n*6→w1.cell? (ad.add j)=some (seF X j):=by
  rcases HS.out with h|⟨b,o,hp,hb,hc⟩
  ·exact .inl h
  ·exact .inr ⟨_,hp,fun j hj=>by rw [addr_add0];exact (cell_below (a:=⟨b,o+j,none⟩) hb1 hb).trans (hc j hj)⟩
 have HB1:Hid (Below w.heap.size w w1):=hb1
 clear hown hgrow hb1
 go_wp2_with (refine wpList_copy_head rfl (.tmp 9) (.tmp 10) 35 35 rfl 54 6 Tryz.underlying35 hsz w.heap.size w.heap.size n n n cp p rfl rfl (Nat.le_refl _) _ (seF X) hO (fun j _=>seF_one X j) hs2 w.heap.size w HB1.out (Nat.le_refl _) ?_;intro w2 hO2 hB2)
 have hO3:SRow w2 w.heap.size w.heap.size n n X:=hO2.out.congr fun j hj=>by rw [if_pos hj]
 have HSO:=sortS_any hn w2 hO3
 have HB2:Hid (Below w.heap.size w w2):=hB2
 clear hO2 hO3 hB2 hO hs2
 go_wp2_with (go_at_call 158;(with_reducible refine HSO.mono ?_);rintro e9 w3 ⟨rfl,d,h5,h6,h7,h8⟩;have H3:Hid (SRow w3 w.heap.size w.heap.size n n d∧Stb klt 0 n X d∧Srt klt 0 n d∧Kp w.heap.size w2 w3):=⟨h5,h6,h7,h8⟩;clear h5 h6 h7 h8)
 go_ret
 exact ⟨_,d,rfl,H3.out.1,H3.out.2.1,H3.out.2.2.1,HB2.out.trans (H3.out.2.2.2.toBelow HB2.out.size (Nat.le_refl _))⟩
set_option maxRecDepth 100000 in
theorem order_any (p:Option Addr) (n cp:Nat) (X:Nat→Se) (hn:n≤2932031007402) (w:World) (hsrc:SIn w p n X):Calls Tryz.prog 69 #[.slice p n cp] w fun e w'=> ∃g d,e=.returned (.slice (some ⟨g,0,none⟩) n n)∧SRow w' w.heap.size g n n d∧Stb klt 0 n X d∧Srt klt 0 n d∧Below w.heap.size w w':=by
 have HS:=sorted_any p n cp X hn w hsrc
 clear hsrc
 go_enter Tryz.func69,Tryz.ntmps69
 go_wp2_with (go_at_call 114;(with_reducible refine HS.mono ?_);rintro e9 w3 ⟨g,d,rfl,h5⟩;have H3:Hid (SRow w3 w.heap.size g n n d∧Stb klt 0 n X d∧Srt klt 0 n d∧Below w.heap.size w w3):=h5;clear h5)
 go_ret
 exact ⟨g,d,rfl,H3.out⟩
end Go.Proofs.YtecgecpgmpmkoaaGreat
