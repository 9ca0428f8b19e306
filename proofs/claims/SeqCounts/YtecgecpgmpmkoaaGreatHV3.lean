import Derived.Test.YtecgecpgmpmkoaaGreatHV1
namespace Go.Proofs.YtecgecpgmpmkoaaGreat
open Go.ChangeShapes Go.WideShapes Go.ChangeAt Go.RowKit
set_option linter.unusedVariables false
theorem all42 {o:Int} (h:0≤o∧o<42):o=0∨o=1∨o=2∨o=3∨o=4∨o=5∨o=6∨o=7∨o=8∨o=9∨o=10∨o=11∨o=12∨o=13∨o=14∨o=15∨o=16∨o=17∨o=18∨o=19∨o=20∨o=21∨o=22∨o=23∨o=24∨o=25∨o=26∨o=27∨o=28∨o=29∨o=30∨o=31∨o=32∨o=33∨o=34∨o=35∨o=36∨o=37∨o=38∨o=39∨o=40∨o=41:=by omega
set_option maxRecDepth 100000 in
set_option maxHeartbeats 4000000 in
theorem moves_any (o:Int) (h:0≤o∧o<42) (w:World):
  Calls Tryz.prog 218 #[.int .i64 o] w fun e w'=>e=.returned (.tuple #[.int .i64 (pops o),.int .i64 (pushes o)])∧w'=w:=by
 rcases all42 h with rfl|rfl|rfl|rfl|rfl|rfl|rfl|rfl|rfl|rfl|rfl|rfl|rfl|rfl|rfl|rfl|rfl|rfl|rfl|rfl|rfl|rfl|rfl|rfl|rfl|rfl|rfl|rfl|rfl|rfl|rfl|rfl|rfl|rfl|rfl|rfl|rfl|rfl|rfl|rfl|rfl|rfl
 all_goals
  clear h
  go_enter Tryz.func218,Tryz.ntmps218
  go_wp2
  go_ret2
  exact ⟨rfl,rfl⟩
def wantTab:List Int:= [0,1,0,1,1,2,2,1,1,0,0,0,0,0,0,0,0,0,0,0,0,0,0,0,0,0,0,0,0,0,0,0,0,0,0,1,1,0,2,1,0,0]
def wantsI (o:Int):Int:=wantTab.getD o.toNat 0
set_option maxRecDepth 100000 in
set_option maxHeartbeats 4000000 in
theorem wants_any (o:Int) (h:0≤o∧o<42) (w:World):
  Calls Tryz.prog 203 #[.int .i64 o] w fun e w'=>e=.returned (.int .i64 (wantsI o))∧w'=w:=by
 rcases all42 h with rfl|rfl|rfl|rfl|rfl|rfl|rfl|rfl|rfl|rfl|rfl|rfl|rfl|rfl|rfl|rfl|rfl|rfl|rfl|rfl|rfl|rfl|rfl|rfl|rfl|rfl|rfl|rfl|rfl|rfl|rfl|rfl|rfl|rfl|rfl|rfl|rfl|rfl|rfl|rfl|rfl|rfl
 all_goals
  clear h
  go_enter Tryz.func203,Tryz.ntmps203
  go_wp2
  go_ret
  exact ⟨rfl,rfl⟩
theorem isOp_any (o:Int) (w:World):Calls Tryz.prog 201 #[.int .i64 o] w fun e w'=>e=.returned (.bool (decide (0≤o) && decide (o<42)))∧w'=w:=by
 go_enter Tryz.func201,Tryz.ntmps201
 by_cases h:0≤o
 ·go_wp2
  go_ret
  exact ⟨by simp [h],rfl⟩
 ·have e:(decide (0≤o) && decide (o<42))=false:=by simp;omega
  go_wp2
  go_ret
  exact ⟨by first|rfl|(rw [e];rfl),rfl⟩
theorem jumps_any (o:Int) (w:World):Calls Tryz.prog 204 #[.int .i64 o] w fun e w'=>e=.returned (.bool (jmp o))∧w'=w:=by
 go_enter Tryz.func204,Tryz.ntmps204
 by_cases h:o=35
 ·subst h
  go_wp2
  go_ret
  exact ⟨rfl,rfl⟩
 ·have h':(o==35)=false:=by simpa using h
  have e:jmp o=(o==36):=by unfold jmp;rw [h',Bool.false_or]
  go_wp2
  go_ret
  exact ⟨by rw [e];rfl,rfl⟩
theorem ends_any (o:Int) (w:World):Calls Tryz.prog 219 #[.int .i64 o] w fun e w'=>e=.returned (.bool (ends o))∧w'=w:=by
 go_enter Tryz.func219,Tryz.ntmps219
 by_cases h:o=0
 ·subst h
  go_wp2
  go_ret
  exact ⟨rfl,rfl⟩
 ·have h':(o==0)=false:=by simpa using h
  by_cases h2:o=35
  ·subst h2
   go_wp2
   go_ret
   exact ⟨rfl,rfl⟩
  ·have h2':(o==35)=false:=by simpa using h2
   have e:ends o=(o==40):=by unfold ends;rw [h',h2',Bool.false_or,Bool.false_or]
   go_wp2
   go_ret
   exact ⟨by rw [e];rfl,rfl⟩
structure PgV where
 cp:Option Addr
 cc:Nat
 ep:Option Addr
 ec:Nat
def limI (P:Pg) (o:Int):Int:=
 if o=3∨o=4∨o=5∨o=6 then P.words else if o=7∨o=8 then P.locals else if o=35∨o=36 then P.n else if o=38 then 64 else if o=39 then P.m else 1
set_option maxRecDepth 100000 in
set_option maxHeartbeats 4000000 in
theorem room_any (P:Pg) (v:PgV) (o:Int) (h:0≤o∧o<42) (w:World):
  Calls Tryz.prog 202 #[.agg #[.int .i64 P.words,.int .i64 P.locals,.slice v.cp P.n v.cc,.slice v.ep P.m v.ec],.int .i64 o] w fun e w'=>e=.returned (.int .i64 (limI P o))∧w'=w.alloc (.cells #[.int .i64 P.words,.int .i64 P.locals,.slice v.cp P.n v.cc,.slice v.ep P.m v.ec] 103):=by
 rcases all42 h with rfl|rfl|rfl|rfl|rfl|rfl|rfl|rfl|rfl|rfl|rfl|rfl|rfl|rfl|rfl|rfl|rfl|rfl|rfl|rfl|rfl|rfl|rfl|rfl|rfl|rfl|rfl|rfl|rfl|rfl|rfl|rfl|rfl|rfl|rfl|rfl|rfl|rfl|rfl|rfl|rfl|rfl
 all_goals
  clear h
  go_enter Tryz.func202,Tryz.ntmps202
  go_wp2
  go_ret
  exact ⟨rfl,rfl⟩
def sizedP (P:Pg):Prop:=(0≤P.words∧P.words≤64)∧(0≤P.locals∧P.locals≤32)∧P.n≤4096∧P.m≤32
instance (P:Pg):Decidable (sizedP P):=by unfold sizedP;exact inferInstance
set_option maxRecDepth 100000 in
theorem sized_any (P:Pg) (v:PgV) (w:World):
  Calls Tryz.prog 170 #[.agg #[.int .i64 P.words,.int .i64 P.locals,.slice v.cp P.n v.cc,.slice v.ep P.m v.ec]] w fun e w'=>e=.returned (.bool (decide (sizedP P)))∧w'=w.alloc (.cells #[.int .i64 P.words,.int .i64 P.locals,.slice v.cp P.n v.cc,.slice v.ep P.m v.ec] 103):=by
 go_enter Tryz.func170,Tryz.ntmps170
 by_cases h1:0≤P.words
 ·by_cases h2:P.words≤64
  ·by_cases h3:0≤P.locals
   ·by_cases h4:P.locals≤32
    ·by_cases h5:P.n≤4096
     ·have h5':decide ((P.n:Int)≤4096)=true:=by simp;omega
      by_cases h6:P.m≤32
      ·have h6':decide ((P.m:Int)≤32)=true:=by simp;omega
       go_wp2
       go_ret
       exact ⟨by rw [decide_eq_true (show sizedP P from ⟨⟨h1,h2⟩,⟨h3,h4⟩,h5,h6⟩)];rfl,rfl⟩
      ·have h6':decide ((P.m:Int)≤32)=false:=by simp;omega
       go_wp2
       go_ret
       exact ⟨by rw [decide_eq_false (show ¬sizedP P from fun h=>by have:=h.2.2.2;omega)];rfl,rfl⟩
     ·have h5':decide ((P.n:Int)≤4096)=false:=by simp;omega
      go_wp2
      go_ret
      exact ⟨by rw [decide_eq_false (show ¬sizedP P from fun h=>by have:=h.2.2.1;omega)];rfl,rfl⟩
    ·go_wp2
     go_ret
     exact ⟨by rw [decide_eq_false (show ¬sizedP P from fun h=>by have:=h.2.1.2;omega)];rfl,rfl⟩
   ·go_wp2
    go_ret
    exact ⟨by rw [decide_eq_false (show ¬sizedP P from fun h=>by have:=h.2.1.1;omega)];rfl,rfl⟩
  ·go_wp2
   go_ret
   exact ⟨by rw [decide_eq_false (show ¬sizedP P from fun h=>by have:=h.1.2;omega)];rfl,rfl⟩
 ·go_wp2
  go_ret
  exact ⟨by rw [decide_eq_false (show ¬sizedP P from fun h=>by have:=h.1.1;omega)];rfl,rfl⟩
end Go.Proofs.YtecgecpgmpmkoaaGreat
namespace Go.Proofs.YtecgecpgmpmkoaaGreat
open Go.ChangeShapes Go.WideShapes Go.ChangeAt Go.RowKit
set_option linter.unusedVariables false
def insErr (P:Pg) (o a b:Int):Int:=
 if ¬(0≤o∧o<42) then 64
 else if wantsI o=2 then (if 1≤b∧b≤limI P o then (if 0≤a∧a≤limI P o-b then 0 else 63) else 63)
 else if b≠0 then 63
 else if o=1∨(0≤a∧a≤limI P o-1) then 0
 else if jmp o then 62 else 63
theorem lim_b {P:Pg} (h:sizedP P) (o:Int):0≤limI P o∧limI P o≤4096:=by
 obtain ⟨⟨h1,h2⟩,⟨h3,h4⟩,h5,h6⟩:=h
 unfold limI
 repeat' split
 all_goals omega
theorem wants2 {o:Int} (h:wantsI o=2):o≠1∧jmp o=false:=by
 constructor
 ·rintro rfl;revert h;decide
 ·unfold jmp
  have h1:o≠35:=by rintro rfl;revert h;decide
  have h2:o≠36:=by rintro rfl;revert h;decide
  simp [h1,h2]
set_option maxRecDepth 100000 in
set_option maxHeartbeats 4000000 in
theorem check_any (P:Pg) (v:PgV) (o a b:Int) (hs:sizedP P) (w:World):
  Calls Tryz.prog 171 #[.agg #[.int .i64 P.words,.int .i64 P.locals,.slice v.cp P.n v.cc,.slice v.ep P.m v.ec],.agg #[.int .i64 o,.int .i64 a,.int .i64 b]] w fun e w'=>e=.returned (.int .i64 (insErr P o a b))∧Below w.heap.size w w':=by
 have hl:=lim_b hs o
 have hb2:Below w.heap.size w ((w.alloc (.cells #[.int .i64 P.words,.int .i64 P.locals,.slice v.cp P.n v.cc,.slice v.ep P.m v.ec] 103)).alloc (.cells #[.int .i64 o,.int .i64 a,.int .i64 b] 139)):=((Below.refl _ w).alloc (Nat.le_refl _) _).alloc (by simp) _
 have hb3:=hb2.alloc (by simp;omega) (.cells #[.int .i64 P.words,.int .i64 P.locals,.slice v.cp P.n v.cc,.slice v.ep P.m v.ec] 103)
 go_enter Tryz.func171,Tryz.ntmps171
 by_cases ho:0≤o∧o<42
 ·have dO:(decide (0≤o) && decide (o<42))=true:=by simp;exact ho
  have HO:=isOp_any o
  rw [dO] at HO
  have HR:=room_any P v o ho
  have HW:=wants_any o ho
  have HJ:=jumps_any o
  clear hs
  by_cases hw2:wantsI o=2
  ·obtain ⟨no1,nj⟩:=wants2 hw2
   have dw:((2:Int)==2)=true:=rfl
   have d1:(o==1)=false:=by simpa using no1
   have hv:insErr P o a b=(if 1≤b∧b≤limI P o then (if 0≤a∧a≤limI P o-b then 0 else 63) else 63):=by
    unfold insErr;rw [if_neg (by simp;omega),if_pos hw2]
   rw [hv]
   rw [hw2] at HW
   rw [nj] at HJ
   generalize limI P o=L at hl HR hv ⊢
   by_cases hb1:b<1
   ·rw [if_neg (by omega)]
    clear hv
    go_wp2_with (first|(go_at_call 201;(with_reducible refine (HO _).mono ?_);rintro e w1 ⟨rfl,rfl⟩)|(go_at_call 202;(with_reducible refine (HR _).mono ?_);rintro e w1 ⟨rfl,rfl⟩)|(go_at_call 203;(with_reducible refine (HW _).mono ?_);rintro e w1 ⟨rfl,rfl⟩)|(go_at_call 204;(with_reducible refine (HJ _).mono ?_);rintro e w1 ⟨rfl,rfl⟩))
    go_ret
    exact ⟨rfl,hb3⟩
   ·by_cases hb4:L<b
    ·rw [if_neg (by omega)]
     clear hv
     go_wp2_with (first|(go_at_call 201;(with_reducible refine (HO _).mono ?_);rintro e w1 ⟨rfl,rfl⟩)|(go_at_call 202;(with_reducible refine (HR _).mono ?_);rintro e w1 ⟨rfl,rfl⟩)|(go_at_call 203;(with_reducible refine (HW _).mono ?_);rintro e w1 ⟨rfl,rfl⟩)|(go_at_call 204;(with_reducible refine (HJ _).mono ?_);rintro e w1 ⟨rfl,rfl⟩))
     go_ret
     exact ⟨rfl,hb3⟩
    ·rw [if_pos (by omega)]
     clear hv
     by_cases ha:a<0
     ·rw [if_neg (by omega)]
      go_wp2_with (first|(go_at_call 201;(with_reducible refine (HO _).mono ?_);rintro e w1 ⟨rfl,rfl⟩)|(go_at_call 202;(with_reducible refine (HR _).mono ?_);rintro e w1 ⟨rfl,rfl⟩)|(go_at_call 203;(with_reducible refine (HW _).mono ?_);rintro e w1 ⟨rfl,rfl⟩)|(go_at_call 204;(with_reducible refine (HJ _).mono ?_);rintro e w1 ⟨rfl,rfl⟩))
      go_ret
      exact ⟨rfl,hb3⟩
     ·by_cases ha2:a≤L-b
      ·rw [if_pos (by omega)]
       go_wp2_with (first|(go_at_call 201;(with_reducible refine (HO _).mono ?_);rintro e w1 ⟨rfl,rfl⟩)|(go_at_call 202;(with_reducible refine (HR _).mono ?_);rintro e w1 ⟨rfl,rfl⟩)|(go_at_call 203;(with_reducible refine (HW _).mono ?_);rintro e w1 ⟨rfl,rfl⟩)|(go_at_call 204;(with_reducible refine (HJ _).mono ?_);rintro e w1 ⟨rfl,rfl⟩))
       go_ret
       exact ⟨rfl,hb3⟩
      ·rw [if_neg (by omega)]
       go_wp2_with (first|(go_at_call 201;(with_reducible refine (HO _).mono ?_);rintro e w1 ⟨rfl,rfl⟩)|(go_at_call 202;(with_reducible refine (HR _).mono ?_);rintro e w1 ⟨rfl,rfl⟩)|(go_at_call 203;(with_reducible refine (HW _).mono ?_);rintro e w1 ⟨rfl,rfl⟩)|(go_at_call 204;(with_reducible refine (HJ _).mono ?_);rintro e w1 ⟨rfl,rfl⟩))
       go_ret
       exact ⟨rfl,hb3⟩
  ·have dw:(wantsI o==2)=false:=by simpa using hw2
   have hv:insErr P o a b=(if b≠0 then 63 else if o=1∨(0≤a∧a≤limI P o-1) then 0 else if jmp o then 62 else 63):=by
    unfold insErr;rw [if_neg (by simp;omega),if_neg hw2]
   rw [hv]
   clear hv hw2
   generalize wantsI o=wo at dw HW
   generalize limI P o=L at hl HR ⊢
   by_cases hb:b=0
   ·subst hb
    rw [if_neg (by simp)]
    by_cases h1:o=1
    ·subst h1
     rw [if_pos (.inl rfl)]
     go_wp2_with (first|(go_at_call 201;(with_reducible refine (HO _).mono ?_);rintro e w1 ⟨rfl,rfl⟩)|(go_at_call 202;(with_reducible refine (HR _).mono ?_);rintro e w1 ⟨rfl,rfl⟩)|(go_at_call 203;(with_reducible refine (HW _).mono ?_);rintro e w1 ⟨rfl,rfl⟩)|(go_at_call 204;(with_reducible refine (HJ _).mono ?_);rintro e w1 ⟨rfl,rfl⟩))
     go_ret
     exact ⟨rfl,hb3⟩
    ·have d1:(o==1)=false:=by simpa using h1
     by_cases ha:a<0
     ·rw [if_neg (by omega)]
      generalize jmp o=jo at HJ ⊢
      rcases jo with _|_
      all_goals
       go_wp2_with (first|(go_at_call 201;(with_reducible refine (HO _).mono ?_);rintro e w1 ⟨rfl,rfl⟩)|(go_at_call 202;(with_reducible refine (HR _).mono ?_);rintro e w1 ⟨rfl,rfl⟩)|(go_at_call 203;(with_reducible refine (HW _).mono ?_);rintro e w1 ⟨rfl,rfl⟩)|(go_at_call 204;(with_reducible refine (HJ _).mono ?_);rintro e w1 ⟨rfl,rfl⟩))
       go_ret
       exact ⟨rfl,hb3⟩
     ·by_cases ha2:a≤L-1
      ·rw [if_pos (by omega)]
       go_wp2_with (first|(go_at_call 201;(with_reducible refine (HO _).mono ?_);rintro e w1 ⟨rfl,rfl⟩)|(go_at_call 202;(with_reducible refine (HR _).mono ?_);rintro e w1 ⟨rfl,rfl⟩)|(go_at_call 203;(with_reducible refine (HW _).mono ?_);rintro e w1 ⟨rfl,rfl⟩)|(go_at_call 204;(with_reducible refine (HJ _).mono ?_);rintro e w1 ⟨rfl,rfl⟩))
       go_ret
       exact ⟨rfl,hb3⟩
      ·rw [if_neg (by omega)]
       generalize jmp o=jo at HJ ⊢
       rcases jo with _|_
       all_goals
        go_wp2_with (first|(go_at_call 201;(with_reducible refine (HO _).mono ?_);rintro e w1 ⟨rfl,rfl⟩)|(go_at_call 202;(with_reducible refine (HR _).mono ?_);rintro e w1 ⟨rfl,rfl⟩)|(go_at_call 203;(with_reducible refine (HW _).mono ?_);rintro e w1 ⟨rfl,rfl⟩)|(go_at_call 204;(with_reducible refine (HJ _).mono ?_);rintro e w1 ⟨rfl,rfl⟩))
        go_ret
        exact ⟨rfl,hb3⟩
   ·have db:(b==0)=false:=by simpa using hb
    rw [if_pos hb]
    go_wp2_with (first|(go_at_call 201;(with_reducible refine (HO _).mono ?_);rintro e w1 ⟨rfl,rfl⟩)|(go_at_call 202;(with_reducible refine (HR _).mono ?_);rintro e w1 ⟨rfl,rfl⟩)|(go_at_call 203;(with_reducible refine (HW _).mono ?_);rintro e w1 ⟨rfl,rfl⟩)|(go_at_call 204;(with_reducible refine (HJ _).mono ?_);rintro e w1 ⟨rfl,rfl⟩))
    go_ret
    exact ⟨rfl,hb3⟩
 ·have dO:(decide (0≤o) && decide (o<42))=false:=by simp;omega
  have HO:=isOp_any o
  rw [dO] at HO
  have hv:insErr P o a b=64:=by unfold insErr;rw [if_pos ho]
  rw [hv]
  clear hv hs
  go_wp2_with (go_at_call 201;(with_reducible refine (HO _).mono ?_);rintro e w1 ⟨rfl,rfl⟩)
  go_ret
  exact ⟨rfl,hb2⟩
end Go.Proofs.YtecgecpgmpmkoaaGreat
