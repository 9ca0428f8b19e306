import Derived.Handy
namespace Go.Proofs.YtecgecpgmpmkoaaGreat
set_option linter.unusedVariables false
set_option linter.unusedSimpArgs false
structure SOrd {α:Type} (lt:α→α→Bool):Prop where
 irr: ∀x,lt x x=false
 tr: ∀x y z,lt x y=true→lt y z=true→lt x z=true
 ntr: ∀x y z,lt x y=false→lt y z=false→lt x z=false
variable {α:Type} {lt:α→α→Bool}
theorem SOrd.asym (h:SOrd lt) {x y:α} (hxy:lt x y=true):lt y x=false:=by
 cases e:lt y x with
 |false=>rfl
 |true=>have:=h.tr _ _ _ hxy e;rw [h.irr] at this;cases this
theorem SOrd.lt_le (h:SOrd lt) {x y z:α} (h1:lt x y=true) (h2:lt z y=false):lt x z=true:=by
 cases e:lt x z with
 |true=>rfl
 |false=>have:=h.ntr _ _ _ e h2;rw [h1] at this;cases this
theorem SOrd.le_lt (h:SOrd lt) {x y z:α} (h1:lt y x=false) (h2:lt y z=true):lt x z=true:=by
 cases e:lt x z with
 |true=>rfl
 |false=>have:=h.ntr _ _ _ h1 e;rw [h2] at this;cases this
structure SR (lt:α→α→Bool) (a b:Nat) (c c':Nat→α) (f g:Nat→Nat):Prop where
 out: ∀i,¬(a≤i∧i<b)→f i=i
 inr: ∀i,a≤i→i<b→a≤f i∧f i<b
 li: ∀i,g (f i)=i
 ri: ∀i,f (g i)=i
 val: ∀i,c' i=c (f i)
 st: ∀i j,i<j→f i<f j∨lt (c' i) (c' j)=true
def Stb (lt:α→α→Bool) (a b:Nat) (c c':Nat→α):Prop:= ∃f g,SR lt a b c c' f g
theorem Stb.refl (a b:Nat) (c:Nat→α):Stb lt a b c c:=⟨id,id,fun _ _=>rfl,fun i h1 h2=>⟨h1,h2⟩,fun _=>rfl,fun _=>rfl,fun _=>rfl,fun _ _ h=>.inl h⟩
theorem Stb.trans {a b:Nat} {c d e:Nat→α} (h1:Stb lt a b c d) (h2:Stb lt a b d e):Stb lt a b c e:=by
 obtain ⟨f,g,h⟩:=h1
 obtain ⟨p,q,k⟩:=h2
 refine ⟨fun i=>f (p i),fun i=>q (g i),fun i hi=> ?_,fun i x y=> ?_,fun i=> ?_,fun i=> ?_,fun i=> ?_,fun i j hij=> ?_⟩
 ·show f (p i)=i
  rw [k.out i hi,h.out i hi]
 ·have:=k.inr i x y
  exact h.inr _ this.1 this.2
 ·show q (g (f (p i)))=i
  rw [h.li,k.li]
 ·show f (p (q (g i)))=i
  rw [k.ri,h.ri]
 ·rw [k.val,h.val]
 ·show f (p i)<f (p j)∨_
  by_cases hp:p i<p j
  ·rcases h.st (p i) (p j) hp with x|x
   ·exact .inl x
   ·right;rw [k.val i,k.val j];exact x
  ·rcases k.st i j hij with x|x
   ·exact absurd x hp
   ·exact .inr x
theorem Stb.widen {a b a' b':Nat} {c d:Nat→α} (h:Stb lt a b c d) (ha:a'≤a) (hb:b≤b'):Stb lt a' b' c d:=by
 obtain ⟨f,g,h⟩:=h
 refine ⟨f,g,fun i hi=>h.out i (fun x=>hi ⟨by omega,by omega⟩),fun i x y=> ?_,h.li,h.ri,h.val,h.st⟩
 by_cases e:a≤i∧i<b
 ·have:=h.inr i e.1 e.2
  omega
 ·rw [h.out i e]
  exact ⟨x,y⟩
theorem Stb.same {a b:Nat} {c d:Nat→α} (h:Stb lt a b c d) {i:Nat} (hi: ¬(a≤i∧i<b)):d i=c i:=by
 obtain ⟨f,g,h⟩:=h
 rw [h.val,h.out i hi]
theorem Stb.from {a b:Nat} {c d:Nat→α} (h:Stb lt a b c d) {i:Nat} (h1:a≤i) (h2:i<b): ∃j,a≤j∧j<b∧d i=c j:=by
 obtain ⟨f,g,h⟩:=h
 exact ⟨f i,(h.inr i h1 h2).1,(h.inr i h1 h2).2,h.val i⟩
def swp (c:Nat→α) (i j:Nat):Nat→α:=fun k=>if k=i then c j else if k=j then c i else c k
def rotF (c:Nat→α) (a m b:Nat):Nat→α:=fun i=>if a≤i∧i<a+(b-m) then c (i+(m-a)) else if a+(b-m)≤i∧i<b then c (i-(b-m)) else c i
theorem Stb.rot {a m b:Nat} (c:Nat→α) (h1:a≤m) (h2:m≤b) (hlt: ∀x y,a≤x→x<m→m≤y→y<b→lt (c y) (c x)=true):Stb lt a b c (rotF c a m b):=by
 let f:Nat→Nat:=fun i=>if a≤i∧i<a+(b-m) then i+(m-a) else if a+(b-m)≤i∧i<b then i-(b-m) else i
 let g:Nat→Nat:=fun i=>if a≤i∧i<m then i+(b-m) else if m≤i∧i<b then i-(m-a) else i
 have hf: ∀i,f i=if a≤i∧i<a+(b-m) then i+(m-a) else if a+(b-m)≤i∧i<b then i-(b-m) else i:=fun _=>rfl
 have hg: ∀i,g i=if a≤i∧i<m then i+(b-m) else if m≤i∧i<b then i-(m-a) else i:=fun _=>rfl
 have val: ∀i,rotF c a m b i=c (f i):=fun i=>by
  unfold rotF
  rw [hf]
  split
  ·rfl
  ·split<;>rfl
 refine ⟨f,g,fun i hi=> ?_,fun i x y=> ?_,fun i=> ?_,fun i=> ?_,val,fun i j hij=> ?_⟩
 ·rw [hf,if_neg (by omega),if_neg (by omega)]
 ·rw [hf]
  split
  ·omega
  ·split<;>omega
 ·rw [hf]
  split
  ·rw [hg,if_neg (by omega),if_pos (by omega)];omega
  ·split
   ·rw [hg,if_pos (by omega)];omega
   ·rw [hg,if_neg (by omega),if_neg (by omega)]
 ·rw [hg]
  split
  ·rw [hf,if_neg (by omega),if_pos (by omega)];omega
  ·split
   ·rw [hf,if_pos (by omega)];omega
   ·rw [hf,if_neg (by omega),if_neg (by omega)]
 ·by_cases e1:a≤i∧i<a+(b-m)
  ·by_cases e2:a+(b-m)≤j∧j<b
   ·right
    rw [val,val,hf,hf,if_pos e1,if_neg (by omega),if_pos e2]
    exact hlt _ _ (by omega) (by omega) (by omega) (by omega)
   ·left
    rw [hf,hf,if_pos e1]
    split
    ·omega
    ·omega
  ·left
   rw [hf,hf,if_neg e1]
   split
   ·split
    ·omega
    ·split<;>omega
   ·split
    ·omega
    ·split<;>omega
def swpR (c:Nat→α) (x y n:Nat):Nat→α:=fun i=>if x≤i∧i<x+n then c (y+(i-x)) else if y≤i∧i<y+n then c (x+(i-y)) else c i
theorem swpR_zero (c:Nat→α) (x y:Nat):swpR c x y 0=c:=by
 funext i
 unfold swpR
 rw [if_neg (by omega),if_neg (by omega)]
theorem swpR_succ (c:Nat→α) (x y n:Nat) (h:x+n<y):swpR c x y (n+1)=swp (swpR c x y n) (x+n) (y+n):=by
 funext i
 unfold swp swpR
 by_cases e1:i=x+n
 ·subst e1
  rw [if_pos (by omega),if_pos rfl,if_neg (by omega),if_neg (by omega)]
  congr 1
  omega
 ·rw [if_neg e1]
  by_cases e2:i=y+n
  ·subst e2
   rw [if_neg (by omega),if_pos (by omega),if_pos rfl,if_neg (by omega),if_neg (by omega)]
   congr 1
   omega
  ·rw [if_neg e2]
   by_cases e3:x≤i∧i<x+n
   ·rw [if_pos (by omega),if_pos e3]
   ·rw [if_neg (by omega),if_neg e3]
    by_cases e4:y≤i∧i<y+n
    ·rw [if_pos (by omega),if_pos e4]
    ·rw [if_neg (by omega),if_neg e4]
theorem rot_gt (c:Nat→α) (m i j:Nat) (hi:i≤m) (hj:0<j) (h:j<i):rotF (swpR c (m-i) m j) (m-(i-j)) m (m+j)=rotF c (m-i) m (m+j):=by
 funext k
 have e1:m+j-m=j:=by omega
 have e2:m-(m-(i-j))=i-j:=by omega
 have e3:m-(m-i)=i:=by omega
 unfold rotF swpR
 rw [e1,e2,e3]
 by_cases a1:m-i≤k∧k<m-i+j
 ·rw [if_neg (by omega),if_neg (by omega),if_pos a1,if_pos (by omega)]
  congr 1
  omega
 ·by_cases a2:m-(i-j)≤k∧k<m-(i-j)+j
  ·rw [if_pos a2,if_neg (by omega),if_pos (by omega),if_neg a1,if_pos (by omega)]
   congr 1
   omega
  ·by_cases a3:m-(i-j)+j≤k∧k<m+j
   ·rw [if_neg a2,if_pos a3,if_neg (by omega),if_neg (by omega),if_neg a1,if_pos (by omega)]
   ·rw [if_neg a2,if_neg a3,if_neg a1,if_neg (by omega),if_neg a1,if_neg (by omega)]
theorem rot_lt (c:Nat→α) (m i j:Nat) (hi:i≤m) (h0:0<i) (h:i<j):rotF (swpR c (m-i) (m+j-i) i) (m-i) m (m+(j-i))=rotF c (m-i) m (m+j):=by
 funext k
 have e1:m+(j-i)-m=j-i:=by omega
 have e2:m-(m-i)=i:=by omega
 have e3:m+j-m=j:=by omega
 unfold rotF swpR
 rw [e1,e2,e3]
 by_cases a1:m-i≤k∧k<m-i+(j-i)
 ·rw [if_pos a1,if_neg (by omega),if_neg (by omega),if_pos (by omega)]
 ·rw [if_neg a1]
  by_cases a2:m-i+(j-i)≤k∧k<m+(j-i)
  ·rw [if_pos a2,if_pos (by omega),if_pos (by omega)]
   congr 1
   omega
  ·rw [if_neg a2]
   by_cases a3:m+j-i≤k∧k<m+j-i+i
   ·rw [if_neg (by omega),if_pos a3,if_neg (by omega),if_pos (by omega)]
    congr 1
    omega
   ·rw [if_neg (by omega),if_neg a3,if_neg (by omega),if_neg (by omega)]
theorem rot_eq (c:Nat→α) (m i:Nat) (hi:i≤m):swpR c (m-i) m i=rotF c (m-i) m (m+i):=by
 funext k
 have e1:m+i-m=i:=by omega
 have e2:m-(m-i)=i:=by omega
 unfold rotF swpR
 rw [e1,e2]
 by_cases a1:m-i≤k∧k<m-i+i
 ·rw [if_pos a1,if_pos a1]
  congr 1
  omega
 ·rw [if_neg a1,if_neg a1]
  by_cases a2:m≤k∧k<m+i
  ·rw [if_pos a2,if_pos (by omega)]
   congr 1
   omega
  ·rw [if_neg a2,if_neg (by omega)]
end Go.Proofs.YtecgecpgmpmkoaaGreat
namespace Go.Proofs.YtecgecpgmpmkoaaGreat
set_option linter.unusedVariables false
set_option linter.unusedSimpArgs false
variable {α:Type} {lt:α→α→Bool}
def Srt (lt:α→α→Bool) (a b:Nat) (c:Nat→α):Prop:= ∀i j,a≤i→i<j→j<b→lt (c j) (c i)=false
theorem Srt.small {a b:Nat} {c:Nat→α} (h:b≤a+1):Srt lt a b c:=fun i j _ _ _=>by omega
theorem Srt.sub {a b a' b':Nat} {c:Nat→α} (h:Srt lt a b c) (ha:a≤a') (hb:b'≤b):Srt lt a' b' c:=fun i j h1 h2 h3=>h i j (by omega) h2 (by omega)
theorem Srt.congr {a b:Nat} {c d:Nat→α} (h:Srt lt a b c) (he: ∀i,a≤i→i<b→d i=c i):Srt lt a b d:=fun i j h1 h2 h3=>by rw [he i h1 (by omega),he j (by omega) h3];exact h i j h1 h2 h3
theorem Srt.le (ho:SOrd lt) {a b:Nat} {c:Nat→α} (h:Srt lt a b c) {i j:Nat} (h1:a≤i) (h2:i≤j) (h3:j<b):lt (c j) (c i)=false:=by
 by_cases e:i=j
 ·subst e;exact ho.irr _
 ·exact h i j h1 (by omega) h3
theorem Srt.join {a m b:Nat} {c:Nat→α} (h1:Srt lt a m c) (h2:Srt lt m b c) (hx: ∀x y,a≤x→x<m→m≤y→y<b→lt (c y) (c x)=false):Srt lt a b c:=fun i j x y z=>by
 by_cases e1:j<m
 ·exact h1 i j x y e1
 ·by_cases e2:i<m
  ·exact hx i j x e2 (by omega) z
  ·exact h2 i j (by omega) y z
theorem rotF_lo (c:Nat→α) {a m b i:Nat} (h:a≤i) (h2:i<a+(b-m)):rotF c a m b i=c (i+(m-a)):=if_pos ⟨h,h2⟩
theorem rotF_hi (c:Nat→α) {a m b i:Nat} (h:a+(b-m)≤i) (h2:i<b):rotF c a m b i=c (i-(b-m)):=by
 unfold rotF
 rw [if_neg (by omega),if_pos ⟨h,h2⟩]
theorem rotF_out (c:Nat→α) {a m b i:Nat} (hm:m≤b) (ham:a≤m) (h:i<a∨b≤i):rotF c a m b i=c i:=by
 unfold rotF
 rw [if_neg (by omega),if_neg (by omega)]
theorem ins_right (ho:SOrd lt) {a i j:Nat} {c:Nat→α} (ha:a≤j) (hj:j≤i) (hs:Srt lt a i c) (h1: ∀x,j≤x→x<i→lt (c i) (c x)=true) (h2:a<j→lt (c i) (c (j-1))=false):Stb lt a (i+1) c (rotF c j i (i+1))∧Srt lt a (i+1) (rotF c j i (i+1)):=by
 have e1:i+1-i=1:=by omega
 refine ⟨(Stb.rot c hj (by omega) fun x y a1 a2 a3 a4=> ?_).widen ha (Nat.le_refl _),?_⟩
 ·obtain rfl:y=i:=by omega
  exact h1 x a1 a2
 ·have at_j:rotF c j i (i+1) j=c i:=by
   rw [rotF_lo c (Nat.le_refl _) (by omega)]
   congr 1
   omega
  have at_hi: ∀x,j<x→x<i+1→rotF c j i (i+1) x=c (x-1):=fun x x1 x2=>by
   rw [rotF_hi c (by omega) x2,e1]
  have at_lo: ∀x,x<j→rotF c j i (i+1) x=c x:=fun x x1=>rotF_out c (by omega) hj (.inl x1)
  intro x y x1 x2 x3
  by_cases b1:y<j
  ·rw [at_lo x (by omega),at_lo y b1]
   exact hs x y x1 x2 (by omega)
  ·by_cases b2:y=j
   ·rw [b2,at_j,at_lo x (by omega)]
    have h3:=h2 (by omega)
    have h4:=hs.le ho x1 (show x≤j-1 by omega) (by omega)
    exact ho.ntr _ _ _ h3 h4
   ·rw [at_hi y (by omega) x3]
    by_cases b3:x<j
    ·rw [at_lo x b3]
     exact hs x (y-1) x1 (by omega) (by omega)
    ·by_cases b4:x=j
     ·rw [b4,at_j]
      exact ho.asym (h1 (y-1) (by omega) (by omega))
     ·rw [at_hi x (by omega) (by omega)]
      exact hs (x-1) (y-1) (by omega) (by omega) (by omega)
theorem ins_left (ho:SOrd lt) {a b j:Nat} {c:Nat→α} (hj:a+1≤j) (hb:j≤b) (hs:Srt lt (a+1) b c) (h1:a+1<j→lt (c (j-1)) (c a)=true) (h2:j<b→lt (c j) (c a)=false):Stb lt a b c (rotF c a (a+1) j)∧Srt lt a b (rotF c a (a+1) j):=by
 have e1:a+1-a=1:=by omega
 have hlt: ∀y,a+1≤y→y<j→lt (c y) (c a)=true:=fun y y1 y2=>ho.le_lt (hs.le ho y1 (show y≤j-1 by omega) (by omega)) (h1 (by omega))
 refine ⟨(Stb.rot c (by omega) hj fun x y a1 a2 a3 a4=> ?_).widen (Nat.le_refl _) hb,?_⟩
 ·obtain rfl:x=a:=by omega
  exact hlt y a3 a4
 ·have at_lo: ∀x,a≤x→x<j-1→rotF c a (a+1) j x=c (x+1):=fun x x1 x2=>by
   rw [rotF_lo c x1 (by omega),e1]
  have at_j:rotF c a (a+1) j (j-1)=c a:=by
   rw [rotF_hi c (by omega) (by omega)]
   congr 1
   omega
  have at_hi: ∀x,j≤x→rotF c a (a+1) j x=c x:=fun x x1=>rotF_out c hj (by omega) (.inr x1)
  intro x y x1 x2 x3
  by_cases b1:y<j-1
  ·rw [at_lo x x1 (by omega),at_lo y (by omega) b1]
   exact hs _ _ (by omega) (by omega) (by omega)
  ·by_cases b2:y=j-1
   ·rw [b2,at_j,at_lo x x1 (by omega)]
    exact ho.asym (hlt (x+1) (by omega) (by omega))
   ·rw [at_hi y (by omega)]
    by_cases b3:x<j-1
    ·rw [at_lo x x1 b3]
     exact hs _ _ (by omega) (by omega) x3
    ·by_cases b4:x=j-1
     ·rw [b4,at_j]
      have h3:=h2 (by omega)
      exact ho.ntr _ _ _ (hs.le ho (show a+1≤j by omega) (show j≤y by omega) x3) h3
     ·rw [at_hi x (by omega)]
      exact hs _ _ (by omega) x2 x3
theorem sym_key (ho:SOrd lt) {a m b s e mid:Nat} {c:Nat→α} (h1:a≤s) (h2:s≤m) (h3:m≤e) (h4:e≤b) (hmid:mid+m=s+e) (hu:Srt lt a m c) (hv:Srt lt m b c) (hlo:a<s→e<b→lt (c e) (c (s-1))=false) (hhi:s<m→m<e→lt (c (e-1)) (c s)=true):
  Stb lt s e c (rotF c s m e)∧(Srt lt a s (rotF c s m e)∧Srt lt s mid (rotF c s m e))∧(Srt lt mid e (rotF c s m e)∧Srt lt e b (rotF c s m e))∧ ∀x y,a≤x→x<mid→mid≤y→y<b→lt (rotF c s m e y) (rotF c s m e x)=false:=by
 have hlt: ∀x y,s≤x→x<m→m≤y→y<e→lt (c y) (c x)=true:=fun x y a1 a2 a3 a4=>by
  have k:=hhi (by omega) (by omega)
  have k1:=ho.le_lt (hv.le ho a3 (show y≤e-1 by omega) (by omega)) k
  exact ho.lt_le k1 (hu.le ho h1 a1 a2)
 have d_lo: ∀x,x<s→rotF c s m e x=c x:=fun x x1=>rotF_out c h3 h2 (.inl x1)
 have d_v: ∀x,s≤x→x<mid→rotF c s m e x=c (x+(m-s)):=fun x x1 x2=>rotF_lo c x1 (by omega)
 have d_u: ∀x,mid≤x→x<e→rotF c s m e x=c (x-(e-m)):=fun x x1 x2=>rotF_hi c (by omega) x2
 have d_hi: ∀x,e≤x→rotF c s m e x=c x:=fun x x1=>rotF_out c h3 h2 (.inr x1)
 refine ⟨Stb.rot c h2 h3 hlt,⟨?_,?_⟩,⟨?_,?_⟩,?_⟩
 ·exact (hu.sub (Nat.le_refl _) h2).congr fun i i1 i2=>d_lo i i2
 ·intro i j i1 i2 i3
  rw [d_v i i1 (by omega),d_v j (by omega) i3]
  exact hv _ _ (by omega) (by omega) (by omega)
 ·intro i j i1 i2 i3
  rw [d_u i i1 (by omega),d_u j (by omega) i3]
  exact hu _ _ (by omega) (by omega) (by omega)
 ·exact (hv.sub h3 (Nat.le_refl _)).congr fun i i1 i2=>d_hi i i1
 ·intro x y x1 x2 x3 x4
  by_cases b1:x<s
  ·rw [d_lo x b1]
   by_cases b2:y<e
   ·rw [d_u y x3 b2]
    exact hu.le ho x1 (by omega) (by omega)
   ·rw [d_hi y (by omega)]
    have k:=hlo (by omega) (by omega)
    have k1:=hu.le ho x1 (show x≤s-1 by omega) (by omega)
    have k2:=hv.le ho h3 (show e≤y by omega) x4
    exact ho.ntr _ _ _ k2 (ho.ntr _ _ _ k k1)
  ·rw [d_v x (by omega) x2]
   by_cases b2:y<e
   ·rw [d_u y x3 b2]
    exact ho.asym (hlt _ _ (by omega) (by omega) (by omega) (by omega))
   ·rw [d_hi y (by omega)]
    exact hv.le ho (by omega) (by omega) x4
theorem sym_join {a mid b:Nat} {d e f:Nat→α} (h1:a≤mid) (h2:mid≤b) (hx: ∀x y,a≤x→x<mid→mid≤y→y<b→lt (d y) (d x)=false) (hs1:Stb lt a mid d e) (hr1:Srt lt a mid e) (hs2:Stb lt mid b e f) (hr2:Srt lt mid b f):Stb lt a b d f∧Srt lt a b f:=by
 refine ⟨(hs1.widen (Nat.le_refl _) h2).trans (hs2.widen h1 (Nat.le_refl _)),?_⟩
 refine Srt.join (hr1.congr fun i i1 i2=>hs2.same (by omega)) hr2 fun x y x1 x2 x3 x4=> ?_
 rw [hs2.same (i:=x) (by omega)]
 obtain ⟨y',y1,y2,hy⟩:=hs2.from x3 x4
 obtain ⟨x',z1,z2,hz⟩:=hs1.from x1 x2
 rw [hy,hz,hs1.same (i:=y') (by omega)]
 exact hx x' y' z1 z2 y1 y2
end Go.Proofs.YtecgecpgmpmkoaaGreat
