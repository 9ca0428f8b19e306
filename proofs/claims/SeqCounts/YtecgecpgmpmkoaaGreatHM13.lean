import Derived.Test.YtecgecpgmpmkoaaGreatHM11
namespace Go.Proofs.YtecgecpgmpmkoaaGreat
open Go.ChangeShapes Go.WideShapes Go.ChangeAt Go.RowKit
set_option linter.unusedVariables false
theorem ins_one {P:Pg} {o a b:Int} (h:insErr P o a b=0) (hw:wantsI o≠2) (h1:o≠1):0≤a∧a≤limI P o-1:=by
 unfold insErr at h
 by_cases h0:0≤o∧o<42
 ·rw [if_neg (by simpa using h0),if_neg hw] at h
  by_cases hb:b=0
  ·rw [if_neg (by simpa using hb)] at h
   by_cases hc:o=1∨(0≤a∧a≤limI P o-1)
   ·rcases hc with hc|hc
    ·exact absurd hc h1
    ·exact hc
   ·rw [if_neg hc] at h
    split at h<;>cases h
  ·rw [if_pos hb] at h;cases h
 ·rw [if_pos h0] at h;cases h
theorem ins_two {P:Pg} {o a b:Int} (h:insErr P o a b=0) (hw:wantsI o=2):(1≤b∧b≤limI P o)∧0≤a∧a≤limI P o-b:=by
 unfold insErr at h
 by_cases h0:0≤o∧o<42
 ·rw [if_neg (by simpa using h0),if_pos hw] at h
  by_cases hb:1≤b∧b≤limI P o
  ·rw [if_pos hb] at h
   by_cases hc:0≤a∧a≤limI P o-b
   ·exact ⟨hb,hc⟩
   ·rw [if_neg hc] at h;cases h
  ·rw [if_neg hb] at h;cases h
 ·rw [if_pos h0] at h;cases h
theorem ins_op {P:Pg} {o a b:Int} (h:insErr P o a b=0):0≤o∧o<42:=by
 unfold insErr at h
 by_cases h0:0≤o∧o<42
 ·exact h0
 ·rw [if_pos h0] at h;cases h
theorem pop_pair {o:Int} (h:isPair o):pops o=2∧pushes o=1:=by
 rcases h with rfl|rfl|rfl|rfl|rfl|rfl|rfl|rfl|rfl|rfl|rfl|rfl|rfl|rfl|rfl|rfl|rfl|rfl
 all_goals exact ⟨rfl,rfl⟩
theorem idx_cases (i b:Int):(idxF i b=203∧(i<0∨b≤i))∨(idxF i b=0∧ ∃k:Nat,i=(k:Int)∧(k:Int)<b):=by
 unfold idxF
 by_cases h:i<0∨b≤i
 ·exact .inl ⟨if_pos h,h⟩
 ·exact .inr ⟨if_neg h,i.toNat,by omega,by omega⟩
theorem doA_1 (P:Pg) (hs:sizedP P) (w0 w:World) (base mb nw:Nat) (C:Nat→Value) (M:Mc) (cl:Cl) (code:Value) (hC:CC C cl code) (hcl:OkC cl) (hM:OkM M) (hnw:P.words=nw) (a b:Int) (hv:insErr P 1 a b=0) (h:MW w0 w base mb nw C M) (hf1:pops 1≤M.hi) (hf2:(M.hi:Int)-pops 1+pushes 1≤64) (h64:M.hi≤64):
  Calls Tryz.prog 155 #[.pointer (some ⟨mb,0,none⟩),.agg #[.int .i64 1,.int .i64 a,.int .i64 b]] w fun e w'=>e=.returned (.int .i64 (doF cl M 1 a b))∧RO w0 w' base mb nw C M (doF cl M 1 a b) (doM cl M 1 a b):=by
 obtain ⟨⟨q1,q2⟩,⟨q3,q4⟩,q5,q6⟩:=hs
 rw [show pops 1=0 from rfl] at hf1 hf2
 rw [show pushes 1=1 from rfl] at hf2
 exact (do_1 w0 w base mb nw C M cl code hC a b h (by omega)).mono fun e w' ⟨h1,h2⟩=>⟨h1,h2.ro⟩
theorem doA_9 (P:Pg) (hs:sizedP P) (w0 w:World) (base mb nw:Nat) (C:Nat→Value) (M:Mc) (cl:Cl) (code:Value) (hC:CC C cl code) (hcl:OkC cl) (hM:OkM M) (hnw:P.words=nw) (a b:Int) (hv:insErr P 9 a b=0) (h:MW w0 w base mb nw C M) (hf1:pops 9≤M.hi) (hf2:(M.hi:Int)-pops 9+pushes 9≤64) (h64:M.hi≤64):
  Calls Tryz.prog 155 #[.pointer (some ⟨mb,0,none⟩),.agg #[.int .i64 9,.int .i64 a,.int .i64 b]] w fun e w'=>e=.returned (.int .i64 (doF cl M 9 a b))∧RO w0 w' base mb nw C M (doF cl M 9 a b) (doM cl M 9 a b):=by
 obtain ⟨⟨q1,q2⟩,⟨q3,q4⟩,q5,q6⟩:=hs
 rw [show pops 9=0 from rfl] at hf1 hf2
 rw [show pushes 9=1 from rfl] at hf2
 exact (do_9 w0 w base mb nw C M cl code hC a b h (by omega)).mono fun e w' ⟨h1,h2⟩=>⟨h1,h2.ro⟩
theorem doA_10 (P:Pg) (hs:sizedP P) (w0 w:World) (base mb nw:Nat) (C:Nat→Value) (M:Mc) (cl:Cl) (code:Value) (hC:CC C cl code) (hcl:OkC cl) (hM:OkM M) (hnw:P.words=nw) (a b:Int) (hv:insErr P 10 a b=0) (h:MW w0 w base mb nw C M) (hf1:pops 10≤M.hi) (hf2:(M.hi:Int)-pops 10+pushes 10≤64) (h64:M.hi≤64):
  Calls Tryz.prog 155 #[.pointer (some ⟨mb,0,none⟩),.agg #[.int .i64 10,.int .i64 a,.int .i64 b]] w fun e w'=>e=.returned (.int .i64 (doF cl M 10 a b))∧RO w0 w' base mb nw C M (doF cl M 10 a b) (doM cl M 10 a b):=by
 obtain ⟨⟨q1,q2⟩,⟨q3,q4⟩,q5,q6⟩:=hs
 rw [show pops 10=0 from rfl] at hf1 hf2
 rw [show pushes 10=1 from rfl] at hf2
 exact (do_10 w0 w base mb nw C M cl code hC a b h (by omega)).mono fun e w' ⟨h1,h2⟩=>⟨h1,h2.ro⟩
theorem doA_11 (P:Pg) (hs:sizedP P) (w0 w:World) (base mb nw:Nat) (C:Nat→Value) (M:Mc) (cl:Cl) (code:Value) (hC:CC C cl code) (hcl:OkC cl) (hM:OkM M) (hnw:P.words=nw) (a b:Int) (hv:insErr P 11 a b=0) (h:MW w0 w base mb nw C M) (hf1:pops 11≤M.hi) (hf2:(M.hi:Int)-pops 11+pushes 11≤64) (h64:M.hi≤64):
  Calls Tryz.prog 155 #[.pointer (some ⟨mb,0,none⟩),.agg #[.int .i64 11,.int .i64 a,.int .i64 b]] w fun e w'=>e=.returned (.int .i64 (doF cl M 11 a b))∧RO w0 w' base mb nw C M (doF cl M 11 a b) (doM cl M 11 a b):=by
 obtain ⟨⟨q1,q2⟩,⟨q3,q4⟩,q5,q6⟩:=hs
 rw [show pops 11=0 from rfl] at hf1 hf2
 rw [show pushes 11=1 from rfl] at hf2
 exact (do_11 w0 w base mb nw C M cl code hC a b h (by omega)).mono fun e w' ⟨h1,h2⟩=>⟨h1,h2.ro⟩
theorem doA_12 (P:Pg) (hs:sizedP P) (w0 w:World) (base mb nw:Nat) (C:Nat→Value) (M:Mc) (cl:Cl) (code:Value) (hC:CC C cl code) (hcl:OkC cl) (hM:OkM M) (hnw:P.words=nw) (a b:Int) (hv:insErr P 12 a b=0) (h:MW w0 w base mb nw C M) (hf1:pops 12≤M.hi) (hf2:(M.hi:Int)-pops 12+pushes 12≤64) (h64:M.hi≤64):
  Calls Tryz.prog 155 #[.pointer (some ⟨mb,0,none⟩),.agg #[.int .i64 12,.int .i64 a,.int .i64 b]] w fun e w'=>e=.returned (.int .i64 (doF cl M 12 a b))∧RO w0 w' base mb nw C M (doF cl M 12 a b) (doM cl M 12 a b):=by
 obtain ⟨⟨q1,q2⟩,⟨q3,q4⟩,q5,q6⟩:=hs
 rw [show pops 12=0 from rfl] at hf1 hf2
 rw [show pushes 12=1 from rfl] at hf2
 exact (do_12 w0 w base mb nw C M cl code hC a b h (by omega)).mono fun e w' ⟨h1,h2⟩=>⟨h1,h2.ro⟩
theorem doA_2 (P:Pg) (hs:sizedP P) (w0 w:World) (base mb nw:Nat) (C:Nat→Value) (M:Mc) (cl:Cl) (code:Value) (hC:CC C cl code) (hcl:OkC cl) (hM:OkM M) (hnw:P.words=nw) (a b:Int) (hv:insErr P 2 a b=0) (h:MW w0 w base mb nw C M) (hf1:pops 2≤M.hi) (hf2:(M.hi:Int)-pops 2+pushes 2≤64) (h64:M.hi≤64):
  Calls Tryz.prog 155 #[.pointer (some ⟨mb,0,none⟩),.agg #[.int .i64 2,.int .i64 a,.int .i64 b]] w fun e w'=>e=.returned (.int .i64 (doF cl M 2 a b))∧RO w0 w' base mb nw C M (doF cl M 2 a b) (doM cl M 2 a b):=by
 obtain ⟨⟨q1,q2⟩,⟨q3,q4⟩,q5,q6⟩:=hs
 rw [show pops 2=1 from rfl] at hf1 hf2
 rw [show pushes 2=0 from rfl] at hf2
 exact (do_2 w0 w base mb nw C M cl code hC a b h (by omega) h64).mono fun e w' ⟨h1,h2⟩=>⟨h1,h2.ro⟩
theorem doA_40 (P:Pg) (hs:sizedP P) (w0 w:World) (base mb nw:Nat) (C:Nat→Value) (M:Mc) (cl:Cl) (code:Value) (hC:CC C cl code) (hcl:OkC cl) (hM:OkM M) (hnw:P.words=nw) (a b:Int) (hv:insErr P 40 a b=0) (h:MW w0 w base mb nw C M) (hf1:pops 40≤M.hi) (hf2:(M.hi:Int)-pops 40+pushes 40≤64) (h64:M.hi≤64):
  Calls Tryz.prog 155 #[.pointer (some ⟨mb,0,none⟩),.agg #[.int .i64 40,.int .i64 a,.int .i64 b]] w fun e w'=>e=.returned (.int .i64 (doF cl M 40 a b))∧RO w0 w' base mb nw C M (doF cl M 40 a b) (doM cl M 40 a b):=by
 obtain ⟨⟨q1,q2⟩,⟨q3,q4⟩,q5,q6⟩:=hs
 rw [show pops 40=1 from rfl] at hf1 hf2
 rw [show pushes 40=0 from rfl] at hf2
 exact (do_40 w0 w base mb nw C M cl code hC a b h).mono fun e w' ⟨h1,h2⟩=>⟨h1,h2.ro⟩
theorem doA_23 (P:Pg) (hs:sizedP P) (w0 w:World) (base mb nw:Nat) (C:Nat→Value) (M:Mc) (cl:Cl) (code:Value) (hC:CC C cl code) (hcl:OkC cl) (hM:OkM M) (hnw:P.words=nw) (a b:Int) (hv:insErr P 23 a b=0) (h:MW w0 w base mb nw C M) (hf1:pops 23≤M.hi) (hf2:(M.hi:Int)-pops 23+pushes 23≤64) (h64:M.hi≤64):
  Calls Tryz.prog 155 #[.pointer (some ⟨mb,0,none⟩),.agg #[.int .i64 23,.int .i64 a,.int .i64 b]] w fun e w'=>e=.returned (.int .i64 (doF cl M 23 a b))∧RO w0 w' base mb nw C M (doF cl M 23 a b) (doM cl M 23 a b):=by
 obtain ⟨⟨q1,q2⟩,⟨q3,q4⟩,q5,q6⟩:=hs
 rw [show pops 23=1 from rfl] at hf1 hf2
 rw [show pushes 23=1 from rfl] at hf2
 exact (do_23 w0 w base mb nw C M cl code hC a b h (by omega) h64).mono fun e w' ⟨h1,h2⟩=>⟨h1,h2.ro⟩
theorem doA_24 (P:Pg) (hs:sizedP P) (w0 w:World) (base mb nw:Nat) (C:Nat→Value) (M:Mc) (cl:Cl) (code:Value) (hC:CC C cl code) (hcl:OkC cl) (hM:OkM M) (hnw:P.words=nw) (a b:Int) (hv:insErr P 24 a b=0) (h:MW w0 w base mb nw C M) (hf1:pops 24≤M.hi) (hf2:(M.hi:Int)-pops 24+pushes 24≤64) (h64:M.hi≤64):
  Calls Tryz.prog 155 #[.pointer (some ⟨mb,0,none⟩),.agg #[.int .i64 24,.int .i64 a,.int .i64 b]] w fun e w'=>e=.returned (.int .i64 (doF cl M 24 a b))∧RO w0 w' base mb nw C M (doF cl M 24 a b) (doM cl M 24 a b):=by
 obtain ⟨⟨q1,q2⟩,⟨q3,q4⟩,q5,q6⟩:=hs
 rw [show pops 24=1 from rfl] at hf1 hf2
 rw [show pushes 24=1 from rfl] at hf2
 exact (do_24 w0 w base mb nw C M cl code hC a b h (by omega) h64).mono fun e w' ⟨h1,h2⟩=>⟨h1,h2.ro⟩
theorem doA_25 (P:Pg) (hs:sizedP P) (w0 w:World) (base mb nw:Nat) (C:Nat→Value) (M:Mc) (cl:Cl) (code:Value) (hC:CC C cl code) (hcl:OkC cl) (hM:OkM M) (hnw:P.words=nw) (a b:Int) (hv:insErr P 25 a b=0) (h:MW w0 w base mb nw C M) (hf1:pops 25≤M.hi) (hf2:(M.hi:Int)-pops 25+pushes 25≤64) (h64:M.hi≤64):
  Calls Tryz.prog 155 #[.pointer (some ⟨mb,0,none⟩),.agg #[.int .i64 25,.int .i64 a,.int .i64 b]] w fun e w'=>e=.returned (.int .i64 (doF cl M 25 a b))∧RO w0 w' base mb nw C M (doF cl M 25 a b) (doM cl M 25 a b):=by
 obtain ⟨⟨q1,q2⟩,⟨q3,q4⟩,q5,q6⟩:=hs
 rw [show pops 25=1 from rfl] at hf1 hf2
 rw [show pushes 25=1 from rfl] at hf2
 exact (do_25 w0 w base mb nw C M cl code hC a b h (by omega) h64).mono fun e w' ⟨h1,h2⟩=>⟨h1,h2.ro⟩
theorem doA_34 (P:Pg) (hs:sizedP P) (w0 w:World) (base mb nw:Nat) (C:Nat→Value) (M:Mc) (cl:Cl) (code:Value) (hC:CC C cl code) (hcl:OkC cl) (hM:OkM M) (hnw:P.words=nw) (a b:Int) (hv:insErr P 34 a b=0) (h:MW w0 w base mb nw C M) (hf1:pops 34≤M.hi) (hf2:(M.hi:Int)-pops 34+pushes 34≤64) (h64:M.hi≤64):
  Calls Tryz.prog 155 #[.pointer (some ⟨mb,0,none⟩),.agg #[.int .i64 34,.int .i64 a,.int .i64 b]] w fun e w'=>e=.returned (.int .i64 (doF cl M 34 a b))∧RO w0 w' base mb nw C M (doF cl M 34 a b) (doM cl M 34 a b):=by
 obtain ⟨⟨q1,q2⟩,⟨q3,q4⟩,q5,q6⟩:=hs
 rw [show pops 34=1 from rfl] at hf1 hf2
 rw [show pushes 34=1 from rfl] at hf2
 exact (do_34 w0 w base mb nw C M cl code hC a b h (by omega) h64).mono fun e w' ⟨h1,h2⟩=>⟨h1,h2.ro⟩
theorem doA_3 (P:Pg) (hs:sizedP P) (w0 w:World) (base mb nw:Nat) (C:Nat→Value) (M:Mc) (cl:Cl) (code:Value) (hC:CC C cl code) (hcl:OkC cl) (hM:OkM M) (hnw:P.words=nw) (a b:Int) (hv:insErr P 3 a b=0) (h:MW w0 w base mb nw C M) (hf1:pops 3≤M.hi) (hf2:(M.hi:Int)-pops 3+pushes 3≤64) (h64:M.hi≤64):
  Calls Tryz.prog 155 #[.pointer (some ⟨mb,0,none⟩),.agg #[.int .i64 3,.int .i64 a,.int .i64 b]] w fun e w'=>e=.returned (.int .i64 (doF cl M 3 a b))∧RO w0 w' base mb nw C M (doF cl M 3 a b) (doM cl M 3 a b):=by
 obtain ⟨⟨q1,q2⟩,⟨q3,q4⟩,q5,q6⟩:=hs
 rw [show pops 3=0 from rfl] at hf1 hf2
 rw [show pushes 3=1 from rfl] at hf2
 have hl:=ins_one hv (by decide) (by decide)
 rw [show limI P 3=P.words from rfl] at hl
 obtain ⟨a',rfl⟩:=Int.eq_ofNat_of_zero_le hl.1
 exact (do_3 w0 w base mb nw C M cl code hC a' b h (by omega) (by omega)).mono fun e w' ⟨h1,h2⟩=>⟨h1,h2.ro⟩
theorem doA_4 (P:Pg) (hs:sizedP P) (w0 w:World) (base mb nw:Nat) (C:Nat→Value) (M:Mc) (cl:Cl) (code:Value) (hC:CC C cl code) (hcl:OkC cl) (hM:OkM M) (hnw:P.words=nw) (a b:Int) (hv:insErr P 4 a b=0) (h:MW w0 w base mb nw C M) (hf1:pops 4≤M.hi) (hf2:(M.hi:Int)-pops 4+pushes 4≤64) (h64:M.hi≤64):
  Calls Tryz.prog 155 #[.pointer (some ⟨mb,0,none⟩),.agg #[.int .i64 4,.int .i64 a,.int .i64 b]] w fun e w'=>e=.returned (.int .i64 (doF cl M 4 a b))∧RO w0 w' base mb nw C M (doF cl M 4 a b) (doM cl M 4 a b):=by
 obtain ⟨⟨q1,q2⟩,⟨q3,q4⟩,q5,q6⟩:=hs
 rw [show pops 4=1 from rfl] at hf1 hf2
 rw [show pushes 4=0 from rfl] at hf2
 have hl:=ins_one hv (by decide) (by decide)
 rw [show limI P 4=P.words from rfl] at hl
 obtain ⟨a',rfl⟩:=Int.eq_ofNat_of_zero_le hl.1
 exact (do_4 w0 w base mb nw C M cl code hC a' b h (by omega) h64 (by omega)).mono fun e w' ⟨h1,h2⟩=>⟨h1,h2.ro⟩
theorem doA_7 (P:Pg) (hs:sizedP P) (w0 w:World) (base mb nw:Nat) (C:Nat→Value) (M:Mc) (cl:Cl) (code:Value) (hC:CC C cl code) (hcl:OkC cl) (hM:OkM M) (hnw:P.words=nw) (a b:Int) (hv:insErr P 7 a b=0) (h:MW w0 w base mb nw C M) (hf1:pops 7≤M.hi) (hf2:(M.hi:Int)-pops 7+pushes 7≤64) (h64:M.hi≤64):
  Calls Tryz.prog 155 #[.pointer (some ⟨mb,0,none⟩),.agg #[.int .i64 7,.int .i64 a,.int .i64 b]] w fun e w'=>e=.returned (.int .i64 (doF cl M 7 a b))∧RO w0 w' base mb nw C M (doF cl M 7 a b) (doM cl M 7 a b):=by
 obtain ⟨⟨q1,q2⟩,⟨q3,q4⟩,q5,q6⟩:=hs
 rw [show pops 7=0 from rfl] at hf1 hf2
 rw [show pushes 7=1 from rfl] at hf2
 have hl:=ins_one hv (by decide) (by decide)
 rw [show limI P 7=P.locals from rfl] at hl
 obtain ⟨a',rfl⟩:=Int.eq_ofNat_of_zero_le hl.1
 exact (do_7 w0 w base mb nw C M cl code hC a' b h (by omega) (by omega)).mono fun e w' ⟨h1,h2⟩=>⟨h1,h2.ro⟩
theorem doA_8 (P:Pg) (hs:sizedP P) (w0 w:World) (base mb nw:Nat) (C:Nat→Value) (M:Mc) (cl:Cl) (code:Value) (hC:CC C cl code) (hcl:OkC cl) (hM:OkM M) (hnw:P.words=nw) (a b:Int) (hv:insErr P 8 a b=0) (h:MW w0 w base mb nw C M) (hf1:pops 8≤M.hi) (hf2:(M.hi:Int)-pops 8+pushes 8≤64) (h64:M.hi≤64):
  Calls Tryz.prog 155 #[.pointer (some ⟨mb,0,none⟩),.agg #[.int .i64 8,.int .i64 a,.int .i64 b]] w fun e w'=>e=.returned (.int .i64 (doF cl M 8 a b))∧RO w0 w' base mb nw C M (doF cl M 8 a b) (doM cl M 8 a b):=by
 obtain ⟨⟨q1,q2⟩,⟨q3,q4⟩,q5,q6⟩:=hs
 rw [show pops 8=1 from rfl] at hf1 hf2
 rw [show pushes 8=0 from rfl] at hf2
 have hl:=ins_one hv (by decide) (by decide)
 rw [show limI P 8=P.locals from rfl] at hl
 obtain ⟨a',rfl⟩:=Int.eq_ofNat_of_zero_le hl.1
 exact (do_8 w0 w base mb nw C M cl code hC a' b h (by omega) h64 (by omega)).mono fun e w' ⟨h1,h2⟩=>⟨h1,h2.ro⟩
theorem doA_5 (P:Pg) (hs:sizedP P) (w0 w:World) (base mb nw:Nat) (C:Nat→Value) (M:Mc) (cl:Cl) (code:Value) (hC:CC C cl code) (hcl:OkC cl) (hM:OkM M) (hnw:P.words=nw) (a b:Int) (hv:insErr P 5 a b=0) (h:MW w0 w base mb nw C M) (hf1:pops 5≤M.hi) (hf2:(M.hi:Int)-pops 5+pushes 5≤64) (h64:M.hi≤64):
  Calls Tryz.prog 155 #[.pointer (some ⟨mb,0,none⟩),.agg #[.int .i64 5,.int .i64 a,.int .i64 b]] w fun e w'=>e=.returned (.int .i64 (doF cl M 5 a b))∧RO w0 w' base mb nw C M (doF cl M 5 a b) (doM cl M 5 a b):=by
 obtain ⟨⟨q1,q2⟩,⟨q3,q4⟩,q5,q6⟩:=hs
 rw [show pops 5=1 from rfl] at hf1 hf2
 rw [show pushes 5=1 from rfl] at hf2
 have hl:=ins_two hv (by decide)
 rw [show limI P 5=P.words from rfl] at hl
 obtain ⟨⟨l1,l2⟩,l3,l4⟩:=hl
 obtain ⟨a',rfl⟩:=Int.eq_ofNat_of_zero_le l3
 obtain ⟨b',rfl⟩:=Int.eq_ofNat_of_zero_le (show 0≤b by omega)
 have hF:doF cl M 5 a' b'=idxF (topM M) b':=rfl
 rw [hF]
 rcases idx_cases (topM M) b' with ⟨e1,e2⟩|⟨e1,k,e2,e3⟩
 ·rw [e1]
  exact (do_5 w0 w base mb nw C M cl code hC a' b' 203 (doM cl M 5 a' b') h (fun W hW=>(index_5f w0 W base mb nw C M a' b' hW (by omega) h64 e2).mono fun e w' ⟨h1,h2⟩=>⟨h1,fun h=>(by cases h),h2.2⟩)).mono fun e w' ⟨h1,h2⟩=>⟨h1,h2.ro⟩
 ·rw [e1]
  have hD:doM cl M 5 a' b'=pushM (popM M) (M.wd (a'+k)):=by
   show pushM (popM M) (M.wd (((a':Nat):Int).toNat+(topM M).toNat))=_
   rw [e2,Int.toNat_natCast,Int.toNat_natCast]
  rw [hD]
  exact (do_5 w0 w base mb nw C M cl code hC a' b' 0 _ h (fun W hW=>index_5 w0 W base mb nw C M a' b' hW (by omega) h64 k e2 (by omega) (by omega) (by omega))).mono fun e w' ⟨h1,h2⟩=>⟨h1,h2.ro⟩
theorem doA_38 (P:Pg) (hs:sizedP P) (w0 w:World) (base mb nw:Nat) (C:Nat→Value) (M:Mc) (cl:Cl) (code:Value) (hC:CC C cl code) (hcl:OkC cl) (hM:OkM M) (hnw:P.words=nw) (a b:Int) (hv:insErr P 38 a b=0) (h:MW w0 w base mb nw C M) (hf1:pops 38≤M.hi) (hf2:(M.hi:Int)-pops 38+pushes 38≤64) (h64:M.hi≤64):
  Calls Tryz.prog 155 #[.pointer (some ⟨mb,0,none⟩),.agg #[.int .i64 38,.int .i64 a,.int .i64 b]] w fun e w'=>e=.returned (.int .i64 (doF cl M 38 a b))∧RO w0 w' base mb nw C M (doF cl M 38 a b) (doM cl M 38 a b):=by
 obtain ⟨⟨q1,q2⟩,⟨q3,q4⟩,q5,q6⟩:=hs
 rw [show pops 38=1 from rfl] at hf1 hf2
 rw [show pushes 38=1 from rfl] at hf2
 have hl:=ins_two hv (by decide)
 rw [show limI P 38=64 from rfl] at hl
 obtain ⟨⟨l1,l2⟩,l3,l4⟩:=hl
 obtain ⟨a',rfl⟩:=Int.eq_ofNat_of_zero_le l3
 obtain ⟨b',rfl⟩:=Int.eq_ofNat_of_zero_le (show 0≤b by omega)
 have hF:doF cl M 38 a' b'=idxF (topM M) b':=rfl
 rw [hF]
 rcases idx_cases (topM M) b' with ⟨e1,e2⟩|⟨e1,k,e2,e3⟩
 ·rw [e1]
  exact (do_38 w0 w base mb nw C M cl code hC a' b' 203 (doM cl M 38 a' b') h (fun W hW=>(index_38f w0 W base mb nw C M a' b' hW (by omega) h64 e2).mono fun e w' ⟨h1,h2⟩=>⟨h1,fun h=>(by cases h),h2.2⟩)).mono fun e w' ⟨h1,h2⟩=>⟨h1,h2.ro⟩
 ·rw [e1]
  have hD:doM cl M 38 a' b'=pushM (popM M) ((a':Int)+(k:Int)):=by
   show pushM (popM M) ((a':Int)+topM M)=_
   rw [e2]
  rw [hD]
  exact (do_38 w0 w base mb nw C M cl code hC a' b' 0 _ h (fun W hW=>index_38 w0 W base mb nw C M a' b' hW (by omega) h64 k e2 (by omega) (by omega))).mono fun e w' ⟨h1,h2⟩=>⟨h1,h2.ro⟩
theorem doA_6 (P:Pg) (hs:sizedP P) (w0 w:World) (base mb nw:Nat) (C:Nat→Value) (M:Mc) (cl:Cl) (code:Value) (hC:CC C cl code) (hcl:OkC cl) (hM:OkM M) (hnw:P.words=nw) (a b:Int) (hv:insErr P 6 a b=0) (h:MW w0 w base mb nw C M) (hf1:pops 6≤M.hi) (hf2:(M.hi:Int)-pops 6+pushes 6≤64) (h64:M.hi≤64):
  Calls Tryz.prog 155 #[.pointer (some ⟨mb,0,none⟩),.agg #[.int .i64 6,.int .i64 a,.int .i64 b]] w fun e w'=>e=.returned (.int .i64 (doF cl M 6 a b))∧RO w0 w' base mb nw C M (doF cl M 6 a b) (doM cl M 6 a b):=by
 obtain ⟨⟨q1,q2⟩,⟨q3,q4⟩,q5,q6⟩:=hs
 rw [show pops 6=2 from rfl] at hf1 hf2
 rw [show pushes 6=0 from rfl] at hf2
 have hl:=ins_two hv (by decide)
 rw [show limI P 6=P.words from rfl] at hl
 obtain ⟨⟨l1,l2⟩,l3,l4⟩:=hl
 obtain ⟨a',rfl⟩:=Int.eq_ofNat_of_zero_le l3
 obtain ⟨b',rfl⟩:=Int.eq_ofNat_of_zero_le (show 0≤b by omega)
 have hF:doF cl M 6 a' b'=idxF (topM (popM M)) b':=rfl
 rw [hF]
 rcases idx_cases (topM (popM M)) b' with ⟨e1,e2⟩|⟨e1,k,e2,e3⟩
 ·rw [e1]
  exact (do_6 w0 w base mb nw C M cl code hC a' b' 203 (doM cl M 6 a' b') h (fun W hW=>(index_6f w0 W base mb nw C M a' b' hW (by omega) h64 e2).mono fun e w' ⟨h1,h2⟩=>⟨h1,fun h=>(by cases h),h2.2⟩)).mono fun e w' ⟨h1,h2⟩=>⟨h1,h2.ro⟩
 ·rw [e1]
  have hD:doM cl M 6 a' b'= { popM (popM M) with wd:=updI M.wd (a'+k) (topM M) } :=by
   show { popM (popM M) with wd:=updI M.wd (((a':Nat):Int).toNat+(topM (popM M)).toNat) (topM M) } =_
   rw [e2,Int.toNat_natCast,Int.toNat_natCast]
  rw [hD]
  exact (do_6 w0 w base mb nw C M cl code hC a' b' 0 _ h (fun W hW=>index_6 w0 W base mb nw C M a' b' hW (by omega) h64 k e2 (by omega) (by omega) (by omega))).mono fun e w' ⟨h1,h2⟩=>⟨h1,h2.ro⟩
theorem doF_37 (cl:Cl) (M:Mc) (a b:Int):doF cl M 37 a b=if topM M<1 then 208 else 0:=by
 unfold doF
 rw [if_neg (by decide),if_neg (by decide),if_neg (by decide),if_pos rfl]
theorem doF_41 (cl:Cl) (M:Mc) (a b:Int):doF cl M 41 a b=if topM M<1 then 208 else if waitV M.dice (topM M)=none then 206 else 0:=by
 unfold doF
 rw [if_neg (by decide),if_neg (by decide),if_neg (by decide),if_neg (by decide),if_pos rfl]
theorem doF_39 (cl:Cl) (M:Mc) (a b:Int):doF cl M 39 a b=sendF cl M (topM M) (topM (popM M)):=by
 unfold doF
 rw [if_neg (by decide),if_neg (by decide),if_neg (by decide),if_neg (by decide),if_neg (by decide),if_pos rfl]
theorem doM_37 (cl:Cl) (M:Mc) (a b:Int):doM cl M 37 a b= { pushM (popM M) (rollV M.dice (topM M)).1 with dice:=(rollV M.dice (topM M)).2 } :=by
 unfold doM
 rw [if_neg (by decide),if_neg (by decide),if_neg (by decide),if_neg (by decide),if_neg (by decide),if_neg (by decide),if_neg (by decide),if_neg (by decide),if_neg (by decide),if_neg (by decide),if_neg (by decide),if_neg (by decide),if_neg (by decide),if_pos rfl]
theorem doM_41 (cl:Cl) (M:Mc) (a b:Int):doM cl M 41 a b=waitM M (waitV M.dice (topM M)):=by
 unfold doM
 rw [if_neg (by decide),if_neg (by decide),if_neg (by decide),if_neg (by decide),if_neg (by decide),if_neg (by decide),if_neg (by decide),if_neg (by decide),if_neg (by decide),if_neg (by decide),if_neg (by decide),if_neg (by decide),if_neg (by decide),if_neg (by decide),if_pos rfl]
theorem doM_39 (cl:Cl) (M:Mc) (a b:Int):doM cl M 39 a b=sentM cl a M:=by
 unfold doM
 rw [if_neg (by decide),if_neg (by decide),if_neg (by decide),if_neg (by decide),if_neg (by decide),if_neg (by decide),if_neg (by decide),if_neg (by decide),if_neg (by decide),if_neg (by decide),if_neg (by decide),if_neg (by decide),if_neg (by decide),if_neg (by decide),if_neg (by decide),if_pos rfl]
theorem doA_37 (P:Pg) (hs:sizedP P) (w0 w:World) (base mb nw:Nat) (C:Nat→Value) (M:Mc) (cl:Cl) (code:Value) (hC:CC C cl code) (hcl:OkC cl) (hM:OkM M) (hnw:P.words=nw) (a b:Int) (hv:insErr P 37 a b=0) (h:MW w0 w base mb nw C M) (hf1:pops 37≤M.hi) (hf2:(M.hi:Int)-pops 37+pushes 37≤64) (h64:M.hi≤64):
  Calls Tryz.prog 155 #[.pointer (some ⟨mb,0,none⟩),.agg #[.int .i64 37,.int .i64 a,.int .i64 b]] w fun e w'=>e=.returned (.int .i64 (doF cl M 37 a b))∧RO w0 w' base mb nw C M (doF cl M 37 a b) (doM cl M 37 a b):=by
 obtain ⟨⟨q1,q2⟩,⟨q3,q4⟩,q5,q6⟩:=hs
 rw [show pops 37=1 from rfl] at hf1 hf2
 rw [show pushes 37=1 from rfl] at hf2
 rw [doF_37,doM_37]
 generalize hrv:rollV M.dice (topM M)=rv
 by_cases hn:topM M<1
 ·rw [if_pos hn]
  exact (do_37 w0 w base mb nw C M cl code hC a b 208 _ h (by omega) h64 (fun W hW=>(roll_bad mb (topM M) hn W).mono fun e w' ⟨h1,h2⟩=>⟨h1,fun h=>(by cases h),fun _=>⟨popM M,(by rw [h2];exact hW),rfl⟩⟩)).mono fun e w' ⟨h1,h2⟩=>⟨h1,h2.ro⟩
 ·rw [if_neg hn]
  have HR:=fun W (hW:MW w0 W base mb nw C (popM M))=>roll_any w0 W base mb nw C (popM M) (topM M) ⟨by omega,hM.top.2⟩ hW (by show M.hi-1<64;omega) hM.dice
  rw [show (popM M).dice=M.dice from rfl,hrv] at HR
  exact (do_37 w0 w base mb nw C M cl code hC a b 0 _ h (by omega) h64 (fun W hW=>(HR W hW).mono fun e w' ⟨h1,h2⟩=>⟨h1,fun _=>h2,fun h=>absurd rfl h⟩)).mono fun e w' ⟨h1,h2⟩=>⟨h1,h2.ro⟩
theorem doA_41 (P:Pg) (hs:sizedP P) (w0 w:World) (base mb nw:Nat) (C:Nat→Value) (M:Mc) (cl:Cl) (code:Value) (hC:CC C cl code) (hcl:OkC cl) (hM:OkM M) (hnw:P.words=nw) (a b:Int) (hv:insErr P 41 a b=0) (h:MW w0 w base mb nw C M) (hf1:pops 41≤M.hi) (hf2:(M.hi:Int)-pops 41+pushes 41≤64) (h64:M.hi≤64):
  Calls Tryz.prog 155 #[.pointer (some ⟨mb,0,none⟩),.agg #[.int .i64 41,.int .i64 a,.int .i64 b]] w fun e w'=>e=.returned (.int .i64 (doF cl M 41 a b))∧RO w0 w' base mb nw C M (doF cl M 41 a b) (doM cl M 41 a b):=by
 obtain ⟨⟨q1,q2⟩,⟨q3,q4⟩,q5,q6⟩:=hs
 rw [show pops 41=1 from rfl] at hf1 hf2
 rw [show pushes 41=1 from rfl] at hf2
 rw [doF_41,doM_41]
 have H1:=fun W (hW:MW w0 W base mb nw C (popM M)) hn hv=>waitm_none w0 W base mb nw C (popM M) (topM M) hn hW hM.dice hv
 have H2:=fun W (hW:MW w0 W base mb nw C (popM M)) hn r hv=>waitm_any w0 W base mb nw C (popM M) (topM M) hn hW (by show M.hi-1<64;omega) hM.dice r hv
 rw [show (popM M).dice=M.dice from rfl] at H1 H2
 generalize waitV M.dice (topM M)=wv at H1 H2 ⊢
 by_cases hn:topM M<1
 ·rw [if_pos hn]
  exact (do_41 w0 w base mb nw C M cl code hC a b 208 _ h (by omega) h64 (fun W hW=>(wait_bad mb (topM M) hn W).mono fun e w' ⟨h1,h2⟩=>⟨h1,fun h=>(by cases h),fun _=>⟨popM M,(by rw [h2];exact hW),rfl⟩⟩)).mono fun e w' ⟨h1,h2⟩=>⟨h1,h2.ro⟩
 ·rw [if_neg hn]
  rcases wv with _|r
  ·rw [if_pos rfl]
   exact (do_41 w0 w base mb nw C M cl code hC a b 206 _ h (by omega) h64 (fun W hW=>(H1 W hW ⟨by omega,hM.top.2⟩ rfl).mono fun e w' ⟨h1,h2⟩=>⟨h1,fun h=>(by cases h),fun _=>⟨popM M,h2,rfl⟩⟩)).mono fun e w' ⟨h1,h2⟩=>⟨h1,h2.ro⟩
  ·rw [if_neg (by intro e;cases e)]
   exact (do_41 w0 w base mb nw C M cl code hC a b 0 _ h (by omega) h64 (fun W hW=>(H2 W hW ⟨by omega,hM.top.2⟩ r rfl).mono fun e w' ⟨h1,h2⟩=>⟨h1,fun _=>h2,fun h=>absurd rfl h⟩)).mono fun e w' ⟨h1,h2⟩=>⟨h1,h2.ro⟩
theorem doA_39 (P:Pg) (hs:sizedP P) (w0 w:World) (base mb nw:Nat) (C:Nat→Value) (M:Mc) (cl:Cl) (code:Value) (hC:CC C cl code) (hcl:OkC cl) (hM:OkM M) (hnw:P.words=nw) (a b:Int) (hv:insErr P 39 a b=0) (h:MW w0 w base mb nw C M) (hf1:pops 39≤M.hi) (hf2:(M.hi:Int)-pops 39+pushes 39≤64) (h64:M.hi≤64):
  Calls Tryz.prog 155 #[.pointer (some ⟨mb,0,none⟩),.agg #[.int .i64 39,.int .i64 a,.int .i64 b]] w fun e w'=>e=.returned (.int .i64 (doF cl M 39 a b))∧RO w0 w' base mb nw C M (doF cl M 39 a b) (doM cl M 39 a b):=by
 obtain ⟨⟨q1,q2⟩,⟨q3,q4⟩,q5,q6⟩:=hs
 rw [show pops 39=3 from rfl] at hf1 hf2
 rw [show pushes 39=0 from rfl] at hf2
 rw [doF_39,doM_39]
 exact do_39 w0 w base mb nw C M cl code hC a b h (by omega) h64 hcl.time hM.on
theorem doA_pair (P:Pg) (hs:sizedP P) (w0 w:World) (base mb nw:Nat) (C:Nat→Value) (M:Mc) (cl:Cl) (code:Value) (hC:CC C cl code) (hcl:OkC cl) (hM:OkM M) (hnw:P.words=nw) (a b:Int) (o:Int) (hp:isPair o) (h:MW w0 w base mb nw C M) (hf1:pops o≤M.hi) (h64:M.hi≤64):
  Calls Tryz.prog 155 #[.pointer (some ⟨mb,0,none⟩),.agg #[.int .i64 o,.int .i64 a,.int .i64 b]] w fun e w'=>e=.returned (.int .i64 (doF cl M o a b))∧RO w0 w' base mb nw C M (doF cl M o a b) (doM cl M o a b):=by
 rw [(pop_pair hp).1] at hf1
 have hb:isPairB o=true:=by unfold isPairB;unfold isPair at hp;simp;omega
 have hF:doF cl M o a b=(pairV o (topM (popM M)) (topM M)).2:=by
  unfold isPair at hp
  unfold doF
  rw [if_neg (by omega),if_neg (by omega),if_neg (by omega),if_neg (by omega),if_neg (by omega),if_neg (by omega),if_pos hb]
 have hD:doM cl M o a b=pushM (popM (popM M)) (pairV o (topM (popM M)) (topM M)).1:=by
  unfold isPair at hp
  unfold doM
  rw [if_neg (by omega),if_neg (by omega),if_neg (by omega),if_neg (by omega),if_neg (by omega),if_neg (by omega),if_neg (by omega),if_neg (by omega),if_neg (by omega),if_neg (by omega),if_neg (by omega),if_neg (by omega),if_neg (by omega),if_neg (by omega),if_neg (by omega),if_neg (by omega),if_neg (by omega),if_pos hb]
 rw [hF,hD]
 exact (do_pair w0 w base mb nw C M cl code hC o a b hp h (by omega) h64).mono fun e w' ⟨h1,h2⟩=>⟨h1,h2.ro⟩
theorem do_any (P:Pg) (hs:sizedP P) (w0 w:World) (base mb nw:Nat) (C:Nat→Value) (M:Mc) (cl:Cl) (code:Value) (hC:CC C cl code) (hcl:OkC cl) (hM:OkM M) (hnw:P.words=nw) (a b:Int) (o:Int) (hne:o≠0∧o≠35∧o≠36) (hv:insErr P o a b=0) (h:MW w0 w base mb nw C M) (hf1:pops o≤M.hi) (hf2:(M.hi:Int)-pops o+pushes o≤64) (h64:M.hi≤64):
  Calls Tryz.prog 155 #[.pointer (some ⟨mb,0,none⟩),.agg #[.int .i64 o,.int .i64 a,.int .i64 b]] w fun e w'=>e=.returned (.int .i64 (doF cl M o a b))∧RO w0 w' base mb nw C M (doF cl M o a b) (doM cl M o a b):=by
 have ho:=ins_op hv
 by_cases hp:isPair o
 ·exact doA_pair P hs w0 w base mb nw C M cl code hC hcl hM hnw a b o hp h hf1 h64
 unfold isPair at hp
 have hc:o=1∨o=2∨o=3∨o=4∨o=5∨o=6∨o=7∨o=8∨o=9∨o=10∨o=11∨o=12∨o=23∨o=24∨o=25∨o=34∨o=37∨o=38∨o=39∨o=40∨o=41:=by omega
 rcases hc with rfl|rfl|rfl|rfl|rfl|rfl|rfl|rfl|rfl|rfl|rfl|rfl|rfl|rfl|rfl|rfl|rfl|rfl|rfl|rfl|rfl
 ·exact doA_1 P hs w0 w base mb nw C M cl code hC hcl hM hnw a b hv h hf1 hf2 h64
 ·exact doA_2 P hs w0 w base mb nw C M cl code hC hcl hM hnw a b hv h hf1 hf2 h64
 ·exact doA_3 P hs w0 w base mb nw C M cl code hC hcl hM hnw a b hv h hf1 hf2 h64
 ·exact doA_4 P hs w0 w base mb nw C M cl code hC hcl hM hnw a b hv h hf1 hf2 h64
 ·exact doA_5 P hs w0 w base mb nw C M cl code hC hcl hM hnw a b hv h hf1 hf2 h64
 ·exact doA_6 P hs w0 w base mb nw C M cl code hC hcl hM hnw a b hv h hf1 hf2 h64
 ·exact doA_7 P hs w0 w base mb nw C M cl code hC hcl hM hnw a b hv h hf1 hf2 h64
 ·exact doA_8 P hs w0 w base mb nw C M cl code hC hcl hM hnw a b hv h hf1 hf2 h64
 ·exact doA_9 P hs w0 w base mb nw C M cl code hC hcl hM hnw a b hv h hf1 hf2 h64
 ·exact doA_10 P hs w0 w base mb nw C M cl code hC hcl hM hnw a b hv h hf1 hf2 h64
 ·exact doA_11 P hs w0 w base mb nw C M cl code hC hcl hM hnw a b hv h hf1 hf2 h64
 ·exact doA_12 P hs w0 w base mb nw C M cl code hC hcl hM hnw a b hv h hf1 hf2 h64
 ·exact doA_23 P hs w0 w base mb nw C M cl code hC hcl hM hnw a b hv h hf1 hf2 h64
 ·exact doA_24 P hs w0 w base mb nw C M cl code hC hcl hM hnw a b hv h hf1 hf2 h64
 ·exact doA_25 P hs w0 w base mb nw C M cl code hC hcl hM hnw a b hv h hf1 hf2 h64
 ·exact doA_34 P hs w0 w base mb nw C M cl code hC hcl hM hnw a b hv h hf1 hf2 h64
 ·exact doA_37 P hs w0 w base mb nw C M cl code hC hcl hM hnw a b hv h hf1 hf2 h64
 ·exact doA_38 P hs w0 w base mb nw C M cl code hC hcl hM hnw a b hv h hf1 hf2 h64
 ·exact doA_39 P hs w0 w base mb nw C M cl code hC hcl hM hnw a b hv h hf1 hf2 h64
 ·exact doA_40 P hs w0 w base mb nw C M cl code hC hcl hM hnw a b hv h hf1 hf2 h64
 ·exact doA_41 P hs w0 w base mb nw C M cl code hC hcl hM hnw a b hv h hf1 hf2 h64
end Go.Proofs.YtecgecpgmpmkoaaGreat
namespace Go.Proofs.YtecgecpgmpmkoaaGreat
open Go.ChangeShapes Go.WideShapes Go.ChangeAt Go.RowKit
set_option linter.unusedVariables false
def runP (P:Pg) (cl:Cl):Nat→Nat→Mc→Int×Mc
 |0,_,M=>(200,M)
 |k+1,i,M=>
  if P.op i=0 then (0,{ M with used:=M.used+1 })
  else if P.op i=35 then runP P cl k (P.a i).toNat { M with used:=M.used+1 }
  else if P.op i=36 then runP P cl k (if topM M=0 then (P.a i).toNat else i+1) (popM { M with used:=M.used+1 })
  else if doF cl { M with used:=M.used+1 } (P.op i) (P.a i) (P.b i)≠0 then (doF cl { M with used:=M.used+1 } (P.op i) (P.a i) (P.b i),{ M with used:=M.used+1 })
  else runP P cl k (i+1) (doM cl { M with used:=M.used+1 } (P.op i) (P.a i) (P.b i))
def ovM (M:Mc) (ov:Value):Mc:= { M with ov:=ov }
def usM (M:Mc):Mc:= { M with used:=M.used+1 }
theorem doF_ov (cl:Cl) (M:Mc) (ov:Value) (o a b:Int):doF cl (ovM M ov) o a b=doF cl M o a b:=rfl
theorem waitM_ov (M:Mc) (ov:Value) (r:Option (Int×Int)):waitM (ovM M ov) r=ovM (waitM M r) ov:=by
 rcases r with _|r<;>rfl
theorem doM_ov (cl:Cl) (M:Mc) (ov:Value) (o a b:Int):doM cl (ovM M ov) o a b=ovM (doM cl M o a b) ov:=by
 unfold doM
 by_cases h1:o=1
 ·rw [if_pos h1,if_pos h1];rfl
 rw [if_neg h1,if_neg h1]
 by_cases h2:o=2
 ·rw [if_pos h2,if_pos h2];rfl
 rw [if_neg h2,if_neg h2]
 by_cases h3:o=3
 ·rw [if_pos h3,if_pos h3];rfl
 rw [if_neg h3,if_neg h3]
 by_cases h4:o=4
 ·rw [if_pos h4,if_pos h4];rfl
 rw [if_neg h4,if_neg h4]
 by_cases h5:o=5
 ·rw [if_pos h5,if_pos h5];rfl
 rw [if_neg h5,if_neg h5]
 by_cases h6:o=6
 ·rw [if_pos h6,if_pos h6];rfl
 rw [if_neg h6,if_neg h6]
 by_cases h7:o=7
 ·rw [if_pos h7,if_pos h7];rfl
 rw [if_neg h7,if_neg h7]
 by_cases h8:o=8
 ·rw [if_pos h8,if_pos h8];rfl
 rw [if_neg h8,if_neg h8]
 by_cases h9:o=9
 ·rw [if_pos h9,if_pos h9];rfl
 rw [if_neg h9,if_neg h9]
 by_cases h10:o=10
 ·rw [if_pos h10,if_pos h10];rfl
 rw [if_neg h10,if_neg h10]
 by_cases h11:o=11
 ·rw [if_pos h11,if_pos h11];rfl
 rw [if_neg h11,if_neg h11]
 by_cases h12:o=12
 ·rw [if_pos h12,if_pos h12];rfl
 rw [if_neg h12,if_neg h12]
 by_cases h38:o=38
 ·rw [if_pos h38,if_pos h38];rfl
 rw [if_neg h38,if_neg h38]
 by_cases h37:o=37
 ·rw [if_pos h37,if_pos h37];rfl
 rw [if_neg h37,if_neg h37]
 by_cases h41:o=41
 ·rw [if_pos h41,if_pos h41];exact waitM_ov M ov _
 rw [if_neg h41,if_neg h41]
 by_cases h39:o=39
 ·rw [if_pos h39,if_pos h39];rfl
 rw [if_neg h39,if_neg h39]
 by_cases hs:o=23∨o=24∨o=25∨o=34
 ·rw [if_pos hs,if_pos hs];rfl
 rw [if_neg hs,if_neg hs]
 by_cases hp:isPairB o=true
 ·rw [if_pos hp,if_pos hp];rfl
 rw [if_neg hp,if_neg hp]
theorem hi_push (M:Mc) (x:Int):(pushM M x).hi=M.hi+1:=rfl
theorem hi_pop (M:Mc):(popM M).hi=M.hi-1:=rfl
theorem doM_hi (cl:Cl) (M:Mc) (o a b:Int) (ho:0≤o∧o<42) (hne:o≠0∧o≠35∧o≠36∧o≠40) (hf:doF cl M o a b=0) (h1:pops o≤M.hi):((doM cl M o a b).hi:Int)=M.hi-pops o+pushes o:=by
 by_cases hp:isPair o
 ·have hb:isPairB o=true:=by unfold isPairB;unfold isPair at hp;simp;omega
  have hD:doM cl M o a b=pushM (popM (popM M)) (pairV o (topM (popM M)) (topM M)).1:=by
   unfold isPair at hp
   unfold doM
   rw [if_neg (by omega),if_neg (by omega),if_neg (by omega),if_neg (by omega),if_neg (by omega),if_neg (by omega),if_neg (by omega),if_neg (by omega),if_neg (by omega),if_neg (by omega),if_neg (by omega),if_neg (by omega),if_neg (by omega),if_neg (by omega),if_neg (by omega),if_neg (by omega),if_neg (by omega),if_pos hb]
  rw [hD,hi_push,hi_pop,hi_pop]
  rw [(pop_pair hp).1] at h1 ⊢
  rw [(pop_pair hp).2]
  omega
 unfold isPair at hp
 have hc:o=1∨o=2∨o=3∨o=4∨o=5∨o=6∨o=7∨o=8∨o=9∨o=10∨o=11∨o=12∨o=23∨o=24∨o=25∨o=34∨o=37∨o=38∨o=39∨o=41:=by omega
 rcases hc with rfl|rfl|rfl|rfl|rfl|rfl|rfl|rfl|rfl|rfl|rfl|rfl|rfl|rfl|rfl|rfl|rfl|rfl|rfl|rfl
 ·show ((M.hi+1:Nat):Int)=(M.hi:Int)-0+1;omega
 ·have:pops 2=1:=rfl
  rw [this] at h1
  show ((M.hi-1:Nat):Int)=(M.hi:Int)-1+0;omega
 ·show ((M.hi+1:Nat):Int)=(M.hi:Int)-0+1;omega
 ·have:pops 4=1:=rfl
  rw [this] at h1
  show ((M.hi-1:Nat):Int)=(M.hi:Int)-1+0;omega
 ·have:pops 5=1:=rfl
  rw [this] at h1
  show ((M.hi-1+1:Nat):Int)=(M.hi:Int)-1+1;omega
 ·have:pops 6=2:=rfl
  rw [this] at h1
  show ((M.hi-1-1:Nat):Int)=(M.hi:Int)-2+0;omega
 ·show ((M.hi+1:Nat):Int)=(M.hi:Int)-0+1;omega
 ·have:pops 8=1:=rfl
  rw [this] at h1
  show ((M.hi-1:Nat):Int)=(M.hi:Int)-1+0;omega
 ·show ((M.hi+1:Nat):Int)=(M.hi:Int)-0+1;omega
 ·show ((M.hi+1:Nat):Int)=(M.hi:Int)-0+1;omega
 ·show ((M.hi+1:Nat):Int)=(M.hi:Int)-0+1;omega
 ·show ((M.hi+1:Nat):Int)=(M.hi:Int)-0+1;omega
 ·have:pops 23=1:=rfl
  rw [this] at h1
  show ((M.hi-1+1:Nat):Int)=(M.hi:Int)-1+1;omega
 ·have:pops 24=1:=rfl
  rw [this] at h1
  show ((M.hi-1+1:Nat):Int)=(M.hi:Int)-1+1;omega
 ·have:pops 25=1:=rfl
  rw [this] at h1
  show ((M.hi-1+1:Nat):Int)=(M.hi:Int)-1+1;omega
 ·have:pops 34=1:=rfl
  rw [this] at h1
  show ((M.hi-1+1:Nat):Int)=(M.hi:Int)-1+1;omega
 ·have:pops 37=1:=rfl
  rw [this] at h1
  rw [doM_37]
  show ((M.hi-1+1:Nat):Int)=(M.hi:Int)-1+1;omega
 ·have:pops 38=1:=rfl
  rw [this] at h1
  show ((M.hi-1+1:Nat):Int)=(M.hi:Int)-1+1;omega
 ·have:pops 39=3:=rfl
  rw [this] at h1
  rw [doM_39]
  show ((M.hi-1-1-1:Nat):Int)=(M.hi:Int)-3+0;omega
 ·have:pops 41=1:=rfl
  rw [this] at h1
  rw [doM_41]
  rw [doF_41] at hf
  generalize waitV M.dice (topM M)=wv at hf ⊢
  rcases wv with _|r
  ·exfalso
   by_cases hn:topM M<1
   ·rw [if_pos hn] at hf;cases hf
   ·rw [if_neg hn,if_pos rfl] at hf;cases hf
  ·show ((M.hi-1+1:Nat):Int)=(M.hi:Int)-1+1;omega
end Go.Proofs.YtecgecpgmpmkoaaGreat
