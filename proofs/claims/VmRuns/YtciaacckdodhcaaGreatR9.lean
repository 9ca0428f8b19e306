import Derived.Test.YtciaacckdodhcaaGreatR8b
import Derived.Test.YtciaacckdodhcaaGreatR8c
import Derived.Test.YtciaacckdodhcaaGreatM13
namespace Go.Proofs.YtciaacckdodhcaaGreat
open Go.ChangeShapes Go.WideShapes Go.ChangeAt Go.RowKit
set_option linter.unusedVariables false
set_option linter.unusedSimpArgs false

/-- what one instruction comes to -/
def SO (w0 w' : World) (base mb nw nl : Nat) (C : Nat → Value) (f : Int) (M' : Mc) (at_ : Int) : Prop := (f = 0 → RX w0 w' base mb nw nl C M' at_) ∧ (f ≠ 0 → Below base w0 w')
theorem rA_1 (P : Pg) (hs : sizedP P) (w0 w : World) (base mb nw nl : Nat) (C : Nat → Value) (M : Mc) (sv lv ov : Value) (cl : Cl) (i cb co cc : Nat) (hC : CR C cl (.slice (some ⟨cb, co, none⟩) P.n cc)) (hcl : OkC cl) (hM : OkM M) (hnw : P.words = nw) (hnl : P.locals = nl) (h : RWs w0 w base mb nw nl C M sv lv ov (i : Int)) (hi : i < P.n) (hcb : cb < base) (a b : Int) (x0 : w.cell? ⟨cb, co + i * 3, none⟩ = some (.int .i64 1)) (x1 : w.cell? ⟨cb, co + i * 3 + 1, none⟩ = some (.int .i64 a)) (x2 : w.cell? ⟨cb, co + i * 3 + 2, none⟩ = some (.int .i64 b)) (hv : insErr P 1 a b = 0) (hf1 : pops 1 ≤ M.hi) (hf2 : (M.hi : Int) - pops 1 + pushes 1 ≤ 64) (h64 : M.hi ≤ 64) :
    Calls Tryz.prog 49 #[.pointer (some ⟨mb, 0, none⟩)] w fun e w' => e = .returned (.int .i64 (doF cl M 1 a b)) ∧ SO w0 w' base mb nw nl C (doF cl M 1 a b) (doM cl M 1 a b) ((i : Int) + 1) := by
  obtain ⟨⟨q1, q2⟩, ⟨q3, q4⟩, q5, q6⟩ := hs
  rw [show pops 1 = 0 from rfl] at hf1 hf2
  rw [show pushes 1 = 1 from rfl] at hf2
  exact (rstep_val w0 w base mb nw nl C M sv lv ov cl i P.n cb co cc hC h hi q5 hcb 1 a b x0 x1 x2 (by omega) rfl rfl rfl rfl rfl rfl rfl rfl rfl rfl rfl rfl rfl rfl _ (fun W s l v hW => rval_1 w0 W base mb nw nl C M s l v _ cl _ hC a b hW (by omega))).mono fun e w' ⟨h1, h2⟩ => ⟨h1, fun _ => h2, fun h => absurd rfl h⟩
theorem rA_9 (P : Pg) (hs : sizedP P) (w0 w : World) (base mb nw nl : Nat) (C : Nat → Value) (M : Mc) (sv lv ov : Value) (cl : Cl) (i cb co cc : Nat) (hC : CR C cl (.slice (some ⟨cb, co, none⟩) P.n cc)) (hcl : OkC cl) (hM : OkM M) (hnw : P.words = nw) (hnl : P.locals = nl) (h : RWs w0 w base mb nw nl C M sv lv ov (i : Int)) (hi : i < P.n) (hcb : cb < base) (a b : Int) (x0 : w.cell? ⟨cb, co + i * 3, none⟩ = some (.int .i64 9)) (x1 : w.cell? ⟨cb, co + i * 3 + 1, none⟩ = some (.int .i64 a)) (x2 : w.cell? ⟨cb, co + i * 3 + 2, none⟩ = some (.int .i64 b)) (hv : insErr P 9 a b = 0) (hf1 : pops 9 ≤ M.hi) (hf2 : (M.hi : Int) - pops 9 + pushes 9 ≤ 64) (h64 : M.hi ≤ 64) :
    Calls Tryz.prog 49 #[.pointer (some ⟨mb, 0, none⟩)] w fun e w' => e = .returned (.int .i64 (doF cl M 9 a b)) ∧ SO w0 w' base mb nw nl C (doF cl M 9 a b) (doM cl M 9 a b) ((i : Int) + 1) := by
  obtain ⟨⟨q1, q2⟩, ⟨q3, q4⟩, q5, q6⟩ := hs
  rw [show pops 9 = 0 from rfl] at hf1 hf2
  rw [show pushes 9 = 1 from rfl] at hf2
  exact (rstep_val w0 w base mb nw nl C M sv lv ov cl i P.n cb co cc hC h hi q5 hcb 9 a b x0 x1 x2 (by omega) rfl rfl rfl rfl rfl rfl rfl rfl rfl rfl rfl rfl rfl rfl _ (fun W s l v hW => rval_9 w0 W base mb nw nl C M s l v _ cl _ hC a b hW (by omega))).mono fun e w' ⟨h1, h2⟩ => ⟨h1, fun _ => h2, fun h => absurd rfl h⟩
theorem rA_10 (P : Pg) (hs : sizedP P) (w0 w : World) (base mb nw nl : Nat) (C : Nat → Value) (M : Mc) (sv lv ov : Value) (cl : Cl) (i cb co cc : Nat) (hC : CR C cl (.slice (some ⟨cb, co, none⟩) P.n cc)) (hcl : OkC cl) (hM : OkM M) (hnw : P.words = nw) (hnl : P.locals = nl) (h : RWs w0 w base mb nw nl C M sv lv ov (i : Int)) (hi : i < P.n) (hcb : cb < base) (a b : Int) (x0 : w.cell? ⟨cb, co + i * 3, none⟩ = some (.int .i64 10)) (x1 : w.cell? ⟨cb, co + i * 3 + 1, none⟩ = some (.int .i64 a)) (x2 : w.cell? ⟨cb, co + i * 3 + 2, none⟩ = some (.int .i64 b)) (hv : insErr P 10 a b = 0) (hf1 : pops 10 ≤ M.hi) (hf2 : (M.hi : Int) - pops 10 + pushes 10 ≤ 64) (h64 : M.hi ≤ 64) :
    Calls Tryz.prog 49 #[.pointer (some ⟨mb, 0, none⟩)] w fun e w' => e = .returned (.int .i64 (doF cl M 10 a b)) ∧ SO w0 w' base mb nw nl C (doF cl M 10 a b) (doM cl M 10 a b) ((i : Int) + 1) := by
  obtain ⟨⟨q1, q2⟩, ⟨q3, q4⟩, q5, q6⟩ := hs
  rw [show pops 10 = 0 from rfl] at hf1 hf2
  rw [show pushes 10 = 1 from rfl] at hf2
  exact (rstep_val w0 w base mb nw nl C M sv lv ov cl i P.n cb co cc hC h hi q5 hcb 10 a b x0 x1 x2 (by omega) rfl rfl rfl rfl rfl rfl rfl rfl rfl rfl rfl rfl rfl rfl _ (fun W s l v hW => rval_10 w0 W base mb nw nl C M s l v _ cl _ hC a b hW (by omega))).mono fun e w' ⟨h1, h2⟩ => ⟨h1, fun _ => h2, fun h => absurd rfl h⟩
theorem rA_11 (P : Pg) (hs : sizedP P) (w0 w : World) (base mb nw nl : Nat) (C : Nat → Value) (M : Mc) (sv lv ov : Value) (cl : Cl) (i cb co cc : Nat) (hC : CR C cl (.slice (some ⟨cb, co, none⟩) P.n cc)) (hcl : OkC cl) (hM : OkM M) (hnw : P.words = nw) (hnl : P.locals = nl) (h : RWs w0 w base mb nw nl C M sv lv ov (i : Int)) (hi : i < P.n) (hcb : cb < base) (a b : Int) (x0 : w.cell? ⟨cb, co + i * 3, none⟩ = some (.int .i64 11)) (x1 : w.cell? ⟨cb, co + i * 3 + 1, none⟩ = some (.int .i64 a)) (x2 : w.cell? ⟨cb, co + i * 3 + 2, none⟩ = some (.int .i64 b)) (hv : insErr P 11 a b = 0) (hf1 : pops 11 ≤ M.hi) (hf2 : (M.hi : Int) - pops 11 + pushes 11 ≤ 64) (h64 : M.hi ≤ 64) :
    Calls Tryz.prog 49 #[.pointer (some ⟨mb, 0, none⟩)] w fun e w' => e = .returned (.int .i64 (doF cl M 11 a b)) ∧ SO w0 w' base mb nw nl C (doF cl M 11 a b) (doM cl M 11 a b) ((i : Int) + 1) := by
  obtain ⟨⟨q1, q2⟩, ⟨q3, q4⟩, q5, q6⟩ := hs
  rw [show pops 11 = 0 from rfl] at hf1 hf2
  rw [show pushes 11 = 1 from rfl] at hf2
  exact (rstep_val w0 w base mb nw nl C M sv lv ov cl i P.n cb co cc hC h hi q5 hcb 11 a b x0 x1 x2 (by omega) rfl rfl rfl rfl rfl rfl rfl rfl rfl rfl rfl rfl rfl rfl _ (fun W s l v hW => rval_11 w0 W base mb nw nl C M s l v _ cl _ hC a b hW (by omega))).mono fun e w' ⟨h1, h2⟩ => ⟨h1, fun _ => h2, fun h => absurd rfl h⟩
theorem rA_12 (P : Pg) (hs : sizedP P) (w0 w : World) (base mb nw nl : Nat) (C : Nat → Value) (M : Mc) (sv lv ov : Value) (cl : Cl) (i cb co cc : Nat) (hC : CR C cl (.slice (some ⟨cb, co, none⟩) P.n cc)) (hcl : OkC cl) (hM : OkM M) (hnw : P.words = nw) (hnl : P.locals = nl) (h : RWs w0 w base mb nw nl C M sv lv ov (i : Int)) (hi : i < P.n) (hcb : cb < base) (a b : Int) (x0 : w.cell? ⟨cb, co + i * 3, none⟩ = some (.int .i64 12)) (x1 : w.cell? ⟨cb, co + i * 3 + 1, none⟩ = some (.int .i64 a)) (x2 : w.cell? ⟨cb, co + i * 3 + 2, none⟩ = some (.int .i64 b)) (hv : insErr P 12 a b = 0) (hf1 : pops 12 ≤ M.hi) (hf2 : (M.hi : Int) - pops 12 + pushes 12 ≤ 64) (h64 : M.hi ≤ 64) :
    Calls Tryz.prog 49 #[.pointer (some ⟨mb, 0, none⟩)] w fun e w' => e = .returned (.int .i64 (doF cl M 12 a b)) ∧ SO w0 w' base mb nw nl C (doF cl M 12 a b) (doM cl M 12 a b) ((i : Int) + 1) := by
  obtain ⟨⟨q1, q2⟩, ⟨q3, q4⟩, q5, q6⟩ := hs
  rw [show pops 12 = 0 from rfl] at hf1 hf2
  rw [show pushes 12 = 1 from rfl] at hf2
  exact (rstep_val w0 w base mb nw nl C M sv lv ov cl i P.n cb co cc hC h hi q5 hcb 12 a b x0 x1 x2 (by omega) rfl rfl rfl rfl rfl rfl rfl rfl rfl rfl rfl rfl rfl rfl _ (fun W s l v hW => rval_12 w0 W base mb nw nl C M s l v _ cl _ hC a b hW (by omega))).mono fun e w' ⟨h1, h2⟩ => ⟨h1, fun _ => h2, fun h => absurd rfl h⟩
theorem rA_2 (P : Pg) (hs : sizedP P) (w0 w : World) (base mb nw nl : Nat) (C : Nat → Value) (M : Mc) (sv lv ov : Value) (cl : Cl) (i cb co cc : Nat) (hC : CR C cl (.slice (some ⟨cb, co, none⟩) P.n cc)) (hcl : OkC cl) (hM : OkM M) (hnw : P.words = nw) (hnl : P.locals = nl) (h : RWs w0 w base mb nw nl C M sv lv ov (i : Int)) (hi : i < P.n) (hcb : cb < base) (a b : Int) (x0 : w.cell? ⟨cb, co + i * 3, none⟩ = some (.int .i64 2)) (x1 : w.cell? ⟨cb, co + i * 3 + 1, none⟩ = some (.int .i64 a)) (x2 : w.cell? ⟨cb, co + i * 3 + 2, none⟩ = some (.int .i64 b)) (hv : insErr P 2 a b = 0) (hf1 : pops 2 ≤ M.hi) (hf2 : (M.hi : Int) - pops 2 + pushes 2 ≤ 64) (h64 : M.hi ≤ 64) :
    Calls Tryz.prog 49 #[.pointer (some ⟨mb, 0, none⟩)] w fun e w' => e = .returned (.int .i64 (doF cl M 2 a b)) ∧ SO w0 w' base mb nw nl C (doF cl M 2 a b) (doM cl M 2 a b) ((i : Int) + 1) := by
  obtain ⟨⟨q1, q2⟩, ⟨q3, q4⟩, q5, q6⟩ := hs
  rw [show pops 2 = 1 from rfl] at hf1 hf2
  rw [show pushes 2 = 0 from rfl] at hf2
  exact (rstep_val w0 w base mb nw nl C M sv lv ov cl i P.n cb co cc hC h hi q5 hcb 2 a b x0 x1 x2 (by omega) rfl rfl rfl rfl rfl rfl rfl rfl rfl rfl rfl rfl rfl rfl _ (fun W s l v hW => rval_2 w0 W base mb nw nl C M s l v _ cl _ hC a b hW (M.hi - 1) (by omega) h64)).mono fun e w' ⟨h1, h2⟩ => ⟨h1, fun _ => h2, fun h => absurd rfl h⟩
theorem rA_3 (P : Pg) (hs : sizedP P) (w0 w : World) (base mb nw nl : Nat) (C : Nat → Value) (M : Mc) (sv lv ov : Value) (cl : Cl) (i cb co cc : Nat) (hC : CR C cl (.slice (some ⟨cb, co, none⟩) P.n cc)) (hcl : OkC cl) (hM : OkM M) (hnw : P.words = nw) (hnl : P.locals = nl) (h : RWs w0 w base mb nw nl C M sv lv ov (i : Int)) (hi : i < P.n) (hcb : cb < base) (a b : Int) (x0 : w.cell? ⟨cb, co + i * 3, none⟩ = some (.int .i64 3)) (x1 : w.cell? ⟨cb, co + i * 3 + 1, none⟩ = some (.int .i64 a)) (x2 : w.cell? ⟨cb, co + i * 3 + 2, none⟩ = some (.int .i64 b)) (hv : insErr P 3 a b = 0) (hf1 : pops 3 ≤ M.hi) (hf2 : (M.hi : Int) - pops 3 + pushes 3 ≤ 64) (h64 : M.hi ≤ 64) :
    Calls Tryz.prog 49 #[.pointer (some ⟨mb, 0, none⟩)] w fun e w' => e = .returned (.int .i64 (doF cl M 3 a b)) ∧ SO w0 w' base mb nw nl C (doF cl M 3 a b) (doM cl M 3 a b) ((i : Int) + 1) := by
  obtain ⟨⟨q1, q2⟩, ⟨q3, q4⟩, q5, q6⟩ := hs
  rw [show pops 3 = 0 from rfl] at hf1 hf2
  rw [show pushes 3 = 1 from rfl] at hf2
  have hl := ins_one hv (by decide) (by decide)
  rw [show limI P 3 = P.words from rfl] at hl
  obtain ⟨a', rfl⟩ := Int.eq_ofNat_of_zero_le hl.1
  exact (rstep_val w0 w base mb nw nl C M sv lv ov cl i P.n cb co cc hC h hi q5 hcb 3 ((a' : Nat) : Int) b x0 x1 x2 (by omega) rfl rfl rfl rfl rfl rfl rfl rfl rfl rfl rfl rfl rfl rfl _ (fun W s l v hW => rval_3 w0 W base mb nw nl C M s l v _ cl _ hC a' b hW (by omega) (by omega) (by omega))).mono fun e w' ⟨h1, h2⟩ => ⟨h1, fun _ => h2, fun h => absurd rfl h⟩
theorem rA_7 (P : Pg) (hs : sizedP P) (w0 w : World) (base mb nw nl : Nat) (C : Nat → Value) (M : Mc) (sv lv ov : Value) (cl : Cl) (i cb co cc : Nat) (hC : CR C cl (.slice (some ⟨cb, co, none⟩) P.n cc)) (hcl : OkC cl) (hM : OkM M) (hnw : P.words = nw) (hnl : P.locals = nl) (h : RWs w0 w base mb nw nl C M sv lv ov (i : Int)) (hi : i < P.n) (hcb : cb < base) (a b : Int) (x0 : w.cell? ⟨cb, co + i * 3, none⟩ = some (.int .i64 7)) (x1 : w.cell? ⟨cb, co + i * 3 + 1, none⟩ = some (.int .i64 a)) (x2 : w.cell? ⟨cb, co + i * 3 + 2, none⟩ = some (.int .i64 b)) (hv : insErr P 7 a b = 0) (hf1 : pops 7 ≤ M.hi) (hf2 : (M.hi : Int) - pops 7 + pushes 7 ≤ 64) (h64 : M.hi ≤ 64) :
    Calls Tryz.prog 49 #[.pointer (some ⟨mb, 0, none⟩)] w fun e w' => e = .returned (.int .i64 (doF cl M 7 a b)) ∧ SO w0 w' base mb nw nl C (doF cl M 7 a b) (doM cl M 7 a b) ((i : Int) + 1) := by
  obtain ⟨⟨q1, q2⟩, ⟨q3, q4⟩, q5, q6⟩ := hs
  rw [show pops 7 = 0 from rfl] at hf1 hf2
  rw [show pushes 7 = 1 from rfl] at hf2
  have hl := ins_one hv (by decide) (by decide)
  rw [show limI P 7 = P.locals from rfl] at hl
  obtain ⟨a', rfl⟩ := Int.eq_ofNat_of_zero_le hl.1
  exact (rstep_val w0 w base mb nw nl C M sv lv ov cl i P.n cb co cc hC h hi q5 hcb 7 ((a' : Nat) : Int) b x0 x1 x2 (by omega) rfl rfl rfl rfl rfl rfl rfl rfl rfl rfl rfl rfl rfl rfl _ (fun W s l v hW => rval_7 w0 W base mb nw nl C M s l v _ cl _ hC a' b hW (by omega) (by omega) (by omega))).mono fun e w' ⟨h1, h2⟩ => ⟨h1, fun _ => h2, fun h => absurd rfl h⟩
theorem rA_4 (P : Pg) (hs : sizedP P) (w0 w : World) (base mb nw nl : Nat) (C : Nat → Value) (M : Mc) (sv lv ov : Value) (cl : Cl) (i cb co cc : Nat) (hC : CR C cl (.slice (some ⟨cb, co, none⟩) P.n cc)) (hcl : OkC cl) (hM : OkM M) (hnw : P.words = nw) (hnl : P.locals = nl) (h : RWs w0 w base mb nw nl C M sv lv ov (i : Int)) (hi : i < P.n) (hcb : cb < base) (a b : Int) (x0 : w.cell? ⟨cb, co + i * 3, none⟩ = some (.int .i64 4)) (x1 : w.cell? ⟨cb, co + i * 3 + 1, none⟩ = some (.int .i64 a)) (x2 : w.cell? ⟨cb, co + i * 3 + 2, none⟩ = some (.int .i64 b)) (hv : insErr P 4 a b = 0) (hf1 : pops 4 ≤ M.hi) (hf2 : (M.hi : Int) - pops 4 + pushes 4 ≤ 64) (h64 : M.hi ≤ 64) :
    Calls Tryz.prog 49 #[.pointer (some ⟨mb, 0, none⟩)] w fun e w' => e = .returned (.int .i64 (doF cl M 4 a b)) ∧ SO w0 w' base mb nw nl C (doF cl M 4 a b) (doM cl M 4 a b) ((i : Int) + 1) := by
  obtain ⟨⟨q1, q2⟩, ⟨q3, q4⟩, q5, q6⟩ := hs
  rw [show pops 4 = 1 from rfl] at hf1 hf2
  rw [show pushes 4 = 0 from rfl] at hf2
  have hl := ins_one hv (by decide) (by decide)
  rw [show limI P 4 = P.words from rfl] at hl
  obtain ⟨a', rfl⟩ := Int.eq_ofNat_of_zero_le hl.1
  exact (rstep_val w0 w base mb nw nl C M sv lv ov cl i P.n cb co cc hC h hi q5 hcb 4 ((a' : Nat) : Int) b x0 x1 x2 (by omega) rfl rfl rfl rfl rfl rfl rfl rfl rfl rfl rfl rfl rfl rfl _ (fun W s l v hW => rval_4 w0 W base mb nw nl C M s l v _ cl _ hC a' b hW (M.hi - 1) (by omega) h64 (by omega) (by omega))).mono fun e w' ⟨h1, h2⟩ => ⟨h1, fun _ => h2, fun h => absurd rfl h⟩
theorem rA_8 (P : Pg) (hs : sizedP P) (w0 w : World) (base mb nw nl : Nat) (C : Nat → Value) (M : Mc) (sv lv ov : Value) (cl : Cl) (i cb co cc : Nat) (hC : CR C cl (.slice (some ⟨cb, co, none⟩) P.n cc)) (hcl : OkC cl) (hM : OkM M) (hnw : P.words = nw) (hnl : P.locals = nl) (h : RWs w0 w base mb nw nl C M sv lv ov (i : Int)) (hi : i < P.n) (hcb : cb < base) (a b : Int) (x0 : w.cell? ⟨cb, co + i * 3, none⟩ = some (.int .i64 8)) (x1 : w.cell? ⟨cb, co + i * 3 + 1, none⟩ = some (.int .i64 a)) (x2 : w.cell? ⟨cb, co + i * 3 + 2, none⟩ = some (.int .i64 b)) (hv : insErr P 8 a b = 0) (hf1 : pops 8 ≤ M.hi) (hf2 : (M.hi : Int) - pops 8 + pushes 8 ≤ 64) (h64 : M.hi ≤ 64) :
    Calls Tryz.prog 49 #[.pointer (some ⟨mb, 0, none⟩)] w fun e w' => e = .returned (.int .i64 (doF cl M 8 a b)) ∧ SO w0 w' base mb nw nl C (doF cl M 8 a b) (doM cl M 8 a b) ((i : Int) + 1) := by
  obtain ⟨⟨q1, q2⟩, ⟨q3, q4⟩, q5, q6⟩ := hs
  rw [show pops 8 = 1 from rfl] at hf1 hf2
  rw [show pushes 8 = 0 from rfl] at hf2
  have hl := ins_one hv (by decide) (by decide)
  rw [show limI P 8 = P.locals from rfl] at hl
  obtain ⟨a', rfl⟩ := Int.eq_ofNat_of_zero_le hl.1
  exact (rstep_val w0 w base mb nw nl C M sv lv ov cl i P.n cb co cc hC h hi q5 hcb 8 ((a' : Nat) : Int) b x0 x1 x2 (by omega) rfl rfl rfl rfl rfl rfl rfl rfl rfl rfl rfl rfl rfl rfl _ (fun W s l v hW => rval_8 w0 W base mb nw nl C M s l v _ cl _ hC a' b hW (M.hi - 1) (by omega) h64 (by omega) (by omega))).mono fun e w' ⟨h1, h2⟩ => ⟨h1, fun _ => h2, fun h => absurd rfl h⟩
theorem rA_23 (P : Pg) (hs : sizedP P) (w0 w : World) (base mb nw nl : Nat) (C : Nat → Value) (M : Mc) (sv lv ov : Value) (cl : Cl) (i cb co cc : Nat) (hC : CR C cl (.slice (some ⟨cb, co, none⟩) P.n cc)) (hcl : OkC cl) (hM : OkM M) (hnw : P.words = nw) (hnl : P.locals = nl) (h : RWs w0 w base mb nw nl C M sv lv ov (i : Int)) (hi : i < P.n) (hcb : cb < base) (a b : Int) (x0 : w.cell? ⟨cb, co + i * 3, none⟩ = some (.int .i64 23)) (x1 : w.cell? ⟨cb, co + i * 3 + 1, none⟩ = some (.int .i64 a)) (x2 : w.cell? ⟨cb, co + i * 3 + 2, none⟩ = some (.int .i64 b)) (hv : insErr P 23 a b = 0) (hf1 : pops 23 ≤ M.hi) (hf2 : (M.hi : Int) - pops 23 + pushes 23 ≤ 64) (h64 : M.hi ≤ 64) :
    Calls Tryz.prog 49 #[.pointer (some ⟨mb, 0, none⟩)] w fun e w' => e = .returned (.int .i64 (doF cl M 23 a b)) ∧ SO w0 w' base mb nw nl C (doF cl M 23 a b) (doM cl M 23 a b) ((i : Int) + 1) := by
  obtain ⟨⟨q1, q2⟩, ⟨q3, q4⟩, q5, q6⟩ := hs
  rw [show pops 23 = 1 from rfl] at hf1 hf2
  rw [show pushes 23 = 1 from rfl] at hf2
  exact (rstep_23 w0 w base mb nw nl C M sv lv ov cl i P.n cb co cc hC h hi q5 hcb a b x0 x1 x2 _ (fun W s l v hW => rturn_23 w0 W base mb nw nl C M s l v _ hW (M.hi - 1) (by omega) h64)).mono fun e w' ⟨h1, h2⟩ => ⟨h1, fun _ => h2, fun h => absurd rfl h⟩
theorem rA_24 (P : Pg) (hs : sizedP P) (w0 w : World) (base mb nw nl : Nat) (C : Nat → Value) (M : Mc) (sv lv ov : Value) (cl : Cl) (i cb co cc : Nat) (hC : CR C cl (.slice (some ⟨cb, co, none⟩) P.n cc)) (hcl : OkC cl) (hM : OkM M) (hnw : P.words = nw) (hnl : P.locals = nl) (h : RWs w0 w base mb nw nl C M sv lv ov (i : Int)) (hi : i < P.n) (hcb : cb < base) (a b : Int) (x0 : w.cell? ⟨cb, co + i * 3, none⟩ = some (.int .i64 24)) (x1 : w.cell? ⟨cb, co + i * 3 + 1, none⟩ = some (.int .i64 a)) (x2 : w.cell? ⟨cb, co + i * 3 + 2, none⟩ = some (.int .i64 b)) (hv : insErr P 24 a b = 0) (hf1 : pops 24 ≤ M.hi) (hf2 : (M.hi : Int) - pops 24 + pushes 24 ≤ 64) (h64 : M.hi ≤ 64) :
    Calls Tryz.prog 49 #[.pointer (some ⟨mb, 0, none⟩)] w fun e w' => e = .returned (.int .i64 (doF cl M 24 a b)) ∧ SO w0 w' base mb nw nl C (doF cl M 24 a b) (doM cl M 24 a b) ((i : Int) + 1) := by
  obtain ⟨⟨q1, q2⟩, ⟨q3, q4⟩, q5, q6⟩ := hs
  rw [show pops 24 = 1 from rfl] at hf1 hf2
  rw [show pushes 24 = 1 from rfl] at hf2
  exact (rstep_24 w0 w base mb nw nl C M sv lv ov cl i P.n cb co cc hC h hi q5 hcb a b x0 x1 x2 _ (fun W s l v hW => rturn_24 w0 W base mb nw nl C M s l v _ hW (M.hi - 1) (by omega) h64)).mono fun e w' ⟨h1, h2⟩ => ⟨h1, fun _ => h2, fun h => absurd rfl h⟩
theorem rA_25 (P : Pg) (hs : sizedP P) (w0 w : World) (base mb nw nl : Nat) (C : Nat → Value) (M : Mc) (sv lv ov : Value) (cl : Cl) (i cb co cc : Nat) (hC : CR C cl (.slice (some ⟨cb, co, none⟩) P.n cc)) (hcl : OkC cl) (hM : OkM M) (hnw : P.words = nw) (hnl : P.locals = nl) (h : RWs w0 w base mb nw nl C M sv lv ov (i : Int)) (hi : i < P.n) (hcb : cb < base) (a b : Int) (x0 : w.cell? ⟨cb, co + i * 3, none⟩ = some (.int .i64 25)) (x1 : w.cell? ⟨cb, co + i * 3 + 1, none⟩ = some (.int .i64 a)) (x2 : w.cell? ⟨cb, co + i * 3 + 2, none⟩ = some (.int .i64 b)) (hv : insErr P 25 a b = 0) (hf1 : pops 25 ≤ M.hi) (hf2 : (M.hi : Int) - pops 25 + pushes 25 ≤ 64) (h64 : M.hi ≤ 64) :
    Calls Tryz.prog 49 #[.pointer (some ⟨mb, 0, none⟩)] w fun e w' => e = .returned (.int .i64 (doF cl M 25 a b)) ∧ SO w0 w' base mb nw nl C (doF cl M 25 a b) (doM cl M 25 a b) ((i : Int) + 1) := by
  obtain ⟨⟨q1, q2⟩, ⟨q3, q4⟩, q5, q6⟩ := hs
  rw [show pops 25 = 1 from rfl] at hf1 hf2
  rw [show pushes 25 = 1 from rfl] at hf2
  exact (rstep_25 w0 w base mb nw nl C M sv lv ov cl i P.n cb co cc hC h hi q5 hcb a b x0 x1 x2 _ (fun W s l v hW => rturn_25 w0 W base mb nw nl C M s l v _ hW (M.hi - 1) (by omega) h64)).mono fun e w' ⟨h1, h2⟩ => ⟨h1, fun _ => h2, fun h => absurd rfl h⟩
theorem rA_34 (P : Pg) (hs : sizedP P) (w0 w : World) (base mb nw nl : Nat) (C : Nat → Value) (M : Mc) (sv lv ov : Value) (cl : Cl) (i cb co cc : Nat) (hC : CR C cl (.slice (some ⟨cb, co, none⟩) P.n cc)) (hcl : OkC cl) (hM : OkM M) (hnw : P.words = nw) (hnl : P.locals = nl) (h : RWs w0 w base mb nw nl C M sv lv ov (i : Int)) (hi : i < P.n) (hcb : cb < base) (a b : Int) (x0 : w.cell? ⟨cb, co + i * 3, none⟩ = some (.int .i64 34)) (x1 : w.cell? ⟨cb, co + i * 3 + 1, none⟩ = some (.int .i64 a)) (x2 : w.cell? ⟨cb, co + i * 3 + 2, none⟩ = some (.int .i64 b)) (hv : insErr P 34 a b = 0) (hf1 : pops 34 ≤ M.hi) (hf2 : (M.hi : Int) - pops 34 + pushes 34 ≤ 64) (h64 : M.hi ≤ 64) :
    Calls Tryz.prog 49 #[.pointer (some ⟨mb, 0, none⟩)] w fun e w' => e = .returned (.int .i64 (doF cl M 34 a b)) ∧ SO w0 w' base mb nw nl C (doF cl M 34 a b) (doM cl M 34 a b) ((i : Int) + 1) := by
  obtain ⟨⟨q1, q2⟩, ⟨q3, q4⟩, q5, q6⟩ := hs
  rw [show pops 34 = 1 from rfl] at hf1 hf2
  rw [show pushes 34 = 1 from rfl] at hf2
  exact (rstep_34 w0 w base mb nw nl C M sv lv ov cl i P.n cb co cc hC h hi q5 hcb a b x0 x1 x2 _ (fun W s l v hW => rturn_34 w0 W base mb nw nl C M s l v _ hW (M.hi - 1) (by omega) h64)).mono fun e w' ⟨h1, h2⟩ => ⟨h1, fun _ => h2, fun h => absurd rfl h⟩
theorem rA_40 (P : Pg) (hs : sizedP P) (w0 w : World) (base mb nw nl : Nat) (C : Nat → Value) (M : Mc) (sv lv ov : Value) (cl : Cl) (i cb co cc : Nat) (hC : CR C cl (.slice (some ⟨cb, co, none⟩) P.n cc)) (hcl : OkC cl) (hM : OkM M) (hnw : P.words = nw) (hnl : P.locals = nl) (h : RWs w0 w base mb nw nl C M sv lv ov (i : Int)) (hi : i < P.n) (hcb : cb < base) (a b : Int) (x0 : w.cell? ⟨cb, co + i * 3, none⟩ = some (.int .i64 40)) (x1 : w.cell? ⟨cb, co + i * 3 + 1, none⟩ = some (.int .i64 a)) (x2 : w.cell? ⟨cb, co + i * 3 + 2, none⟩ = some (.int .i64 b)) (hv : insErr P 40 a b = 0) (hf1 : pops 40 ≤ M.hi) (hf2 : (M.hi : Int) - pops 40 + pushes 40 ≤ 64) (h64 : M.hi ≤ 64) :
    Calls Tryz.prog 49 #[.pointer (some ⟨mb, 0, none⟩)] w fun e w' => e = .returned (.int .i64 (doF cl M 40 a b)) ∧ SO w0 w' base mb nw nl C (doF cl M 40 a b) (doM cl M 40 a b) ((i : Int) + 1) := by
  obtain ⟨⟨q1, q2⟩, ⟨q3, q4⟩, q5, q6⟩ := hs
  rw [show pops 40 = 1 from rfl] at hf1 hf2
  rw [show pushes 40 = 0 from rfl] at hf2
  exact (rstep_40 w0 w base mb nw nl C M sv lv ov cl i P.n cb co cc hC h hi q5 hcb a b x0 x1 x2).mono fun e w' ⟨h1, h2⟩ => ⟨h1, fun h => (by cases h), fun _ => h2⟩
theorem rA_5 (P : Pg) (hs : sizedP P) (w0 w : World) (base mb nw nl : Nat) (C : Nat → Value) (M : Mc) (sv lv ov : Value) (cl : Cl) (i cb co cc : Nat) (hC : CR C cl (.slice (some ⟨cb, co, none⟩) P.n cc)) (hcl : OkC cl) (hM : OkM M) (hnw : P.words = nw) (hnl : P.locals = nl) (h : RWs w0 w base mb nw nl C M sv lv ov (i : Int)) (hi : i < P.n) (hcb : cb < base) (a b : Int) (x0 : w.cell? ⟨cb, co + i * 3, none⟩ = some (.int .i64 5)) (x1 : w.cell? ⟨cb, co + i * 3 + 1, none⟩ = some (.int .i64 a)) (x2 : w.cell? ⟨cb, co + i * 3 + 2, none⟩ = some (.int .i64 b)) (hv : insErr P 5 a b = 0) (hf1 : pops 5 ≤ M.hi) (hf2 : (M.hi : Int) - pops 5 + pushes 5 ≤ 64) (h64 : M.hi ≤ 64) :
    Calls Tryz.prog 49 #[.pointer (some ⟨mb, 0, none⟩)] w fun e w' => e = .returned (.int .i64 (doF cl M 5 a b)) ∧ SO w0 w' base mb nw nl C (doF cl M 5 a b) (doM cl M 5 a b) ((i : Int) + 1) := by
  obtain ⟨⟨q1, q2⟩, ⟨q3, q4⟩, q5, q6⟩ := hs
  rw [show pops 5 = 1 from rfl] at hf1 hf2
  rw [show pushes 5 = 1 from rfl] at hf2
  have hl := ins_two hv (by decide)
  rw [show limI P 5 = P.words from rfl] at hl
  obtain ⟨⟨l1, l2⟩, l3, l4⟩ := hl
  obtain ⟨a', rfl⟩ := Int.eq_ofNat_of_zero_le l3
  obtain ⟨b', rfl⟩ := Int.eq_ofNat_of_zero_le (show 0 ≤ b by omega)
  have hF : doF cl M 5 a' b' = idxF (topM M) b' := rfl
  rw [hF]
  rcases idx_cases (topM M) b' with ⟨e1, e2⟩ | ⟨e1, k, e2, e3⟩
  · rw [e1]
    exact (rstep_5 w0 w base mb nw nl C M sv lv ov cl i P.n cb co cc hC h hi q5 hcb (a' : Int) (b' : Int) x0 x1 x2 _ 203 (fun W s l v hW => rrow_5_bad w0 W base mb nw nl C M s l v _ a' b' hW (M.hi - 1) (by omega) h64 e2)).mono fun e w' ⟨h1, h2⟩ => ⟨h1, fun h => (by cases h), fun _ => h2⟩
  · rw [e1]
    have hD : doM cl M 5 a' b' = pushM (popM M) (M.wd (a' + k)) := by
      show pushM (popM M) (M.wd (((a' : Nat) : Int).toNat + (topM M).toNat)) = _
      rw [e2, Int.toNat_natCast, Int.toNat_natCast]
    rw [hD]
    exact (rstep_5 w0 w base mb nw nl C M sv lv ov cl i P.n cb co cc hC h hi q5 hcb (a' : Int) (b' : Int) x0 x1 x2 _ 0 (fun W s l v hW => rrow_5_ok w0 W base mb nw nl C M s l v _ a' b' hW (M.hi - 1) (by omega) h64 k e2 e3 (by omega) (by omega))).mono fun e w' ⟨h1, h2⟩ => ⟨h1, fun _ => h2, fun h => absurd rfl h⟩
theorem rA_38 (P : Pg) (hs : sizedP P) (w0 w : World) (base mb nw nl : Nat) (C : Nat → Value) (M : Mc) (sv lv ov : Value) (cl : Cl) (i cb co cc : Nat) (hC : CR C cl (.slice (some ⟨cb, co, none⟩) P.n cc)) (hcl : OkC cl) (hM : OkM M) (hnw : P.words = nw) (hnl : P.locals = nl) (h : RWs w0 w base mb nw nl C M sv lv ov (i : Int)) (hi : i < P.n) (hcb : cb < base) (a b : Int) (x0 : w.cell? ⟨cb, co + i * 3, none⟩ = some (.int .i64 38)) (x1 : w.cell? ⟨cb, co + i * 3 + 1, none⟩ = some (.int .i64 a)) (x2 : w.cell? ⟨cb, co + i * 3 + 2, none⟩ = some (.int .i64 b)) (hv : insErr P 38 a b = 0) (hf1 : pops 38 ≤ M.hi) (hf2 : (M.hi : Int) - pops 38 + pushes 38 ≤ 64) (h64 : M.hi ≤ 64) :
    Calls Tryz.prog 49 #[.pointer (some ⟨mb, 0, none⟩)] w fun e w' => e = .returned (.int .i64 (doF cl M 38 a b)) ∧ SO w0 w' base mb nw nl C (doF cl M 38 a b) (doM cl M 38 a b) ((i : Int) + 1) := by
  obtain ⟨⟨q1, q2⟩, ⟨q3, q4⟩, q5, q6⟩ := hs
  rw [show pops 38 = 1 from rfl] at hf1 hf2
  rw [show pushes 38 = 1 from rfl] at hf2
  have hl := ins_two hv (by decide)
  rw [show limI P 38 = 64 from rfl] at hl
  obtain ⟨⟨l1, l2⟩, l3, l4⟩ := hl
  obtain ⟨a', rfl⟩ := Int.eq_ofNat_of_zero_le l3
  obtain ⟨b', rfl⟩ := Int.eq_ofNat_of_zero_le (show 0 ≤ b by omega)
  have hF : doF cl M 38 a' b' = idxF (topM M) b' := rfl
  rw [hF]
  rcases idx_cases (topM M) b' with ⟨e1, e2⟩ | ⟨e1, k, e2, e3⟩
  · rw [e1]
    exact (rstep_38 w0 w base mb nw nl C M sv lv ov cl i P.n cb co cc hC h hi q5 hcb (a' : Int) (b' : Int) x0 x1 x2 _ 203 (fun W s l v hW => rrow_38_bad w0 W base mb nw nl C M s l v _ a' b' hW (M.hi - 1) (by omega) h64 e2)).mono fun e w' ⟨h1, h2⟩ => ⟨h1, fun h => (by cases h), fun _ => h2⟩
  · rw [e1]
    have hD : doM cl M 38 a' b' = pushM (popM M) ((a' : Int) + (k : Int)) := by
      show pushM (popM M) ((a' : Int) + topM M) = _
      rw [e2]
    rw [hD]
    exact (rstep_38 w0 w base mb nw nl C M sv lv ov cl i P.n cb co cc hC h hi q5 hcb (a' : Int) (b' : Int) x0 x1 x2 _ 0 (fun W s l v hW => rrow_38_ok w0 W base mb nw nl C M s l v _ a' b' hW (M.hi - 1) (by omega) h64 k e2 e3 (by omega))).mono fun e w' ⟨h1, h2⟩ => ⟨h1, fun _ => h2, fun h => absurd rfl h⟩
theorem rA_6 (P : Pg) (hs : sizedP P) (w0 w : World) (base mb nw nl : Nat) (C : Nat → Value) (M : Mc) (sv lv ov : Value) (cl : Cl) (i cb co cc : Nat) (hC : CR C cl (.slice (some ⟨cb, co, none⟩) P.n cc)) (hcl : OkC cl) (hM : OkM M) (hnw : P.words = nw) (hnl : P.locals = nl) (h : RWs w0 w base mb nw nl C M sv lv ov (i : Int)) (hi : i < P.n) (hcb : cb < base) (a b : Int) (x0 : w.cell? ⟨cb, co + i * 3, none⟩ = some (.int .i64 6)) (x1 : w.cell? ⟨cb, co + i * 3 + 1, none⟩ = some (.int .i64 a)) (x2 : w.cell? ⟨cb, co + i * 3 + 2, none⟩ = some (.int .i64 b)) (hv : insErr P 6 a b = 0) (hf1 : pops 6 ≤ M.hi) (hf2 : (M.hi : Int) - pops 6 + pushes 6 ≤ 64) (h64 : M.hi ≤ 64) :
    Calls Tryz.prog 49 #[.pointer (some ⟨mb, 0, none⟩)] w fun e w' => e = .returned (.int .i64 (doF cl M 6 a b)) ∧ SO w0 w' base mb nw nl C (doF cl M 6 a b) (doM cl M 6 a b) ((i : Int) + 1) := by
  obtain ⟨⟨q1, q2⟩, ⟨q3, q4⟩, q5, q6⟩ := hs
  rw [show pops 6 = 2 from rfl] at hf1 hf2
  rw [show pushes 6 = 0 from rfl] at hf2
  have hl := ins_two hv (by decide)
  rw [show limI P 6 = P.words from rfl] at hl
  obtain ⟨⟨l1, l2⟩, l3, l4⟩ := hl
  obtain ⟨a', rfl⟩ := Int.eq_ofNat_of_zero_le l3
  obtain ⟨b', rfl⟩ := Int.eq_ofNat_of_zero_le (show 0 ≤ b by omega)
  have hF : doF cl M 6 a' b' = idxF (topM (popM M)) b' := rfl
  rw [hF]
  rcases idx_cases (topM (popM M)) b' with ⟨e1, e2⟩ | ⟨e1, k, e2, e3⟩
  · rw [e1]
    exact (rstep_6 w0 w base mb nw nl C M sv lv ov cl i P.n cb co cc hC h hi q5 hcb (a' : Int) (b' : Int) x0 x1 x2 _ 203 (fun W s l v hW => rrow_6_bad w0 W base mb nw nl C M s l v _ a' b' hW (M.hi - 2) (by omega) h64 e2)).mono fun e w' ⟨h1, h2⟩ => ⟨h1, fun h => (by cases h), fun _ => h2⟩
  · rw [e1]
    have hD : doM cl M 6 a' b' = { popM (popM M) with wd := updI M.wd (a' + k) (topM M) } := by
      show { popM (popM M) with wd := updI M.wd (((a' : Nat) : Int).toNat + (topM (popM M)).toNat) (topM M) } = _
      rw [e2, Int.toNat_natCast, Int.toNat_natCast]
    rw [hD]
    exact (rstep_6 w0 w base mb nw nl C M sv lv ov cl i P.n cb co cc hC h hi q5 hcb (a' : Int) (b' : Int) x0 x1 x2 _ 0 (fun W s l v hW => rrow_6_ok w0 W base mb nw nl C M s l v _ a' b' hW (M.hi - 2) (by omega) h64 k e2 e3 (by omega) (by omega))).mono fun e w' ⟨h1, h2⟩ => ⟨h1, fun _ => h2, fun h => absurd rfl h⟩
theorem rA_37 (P : Pg) (hs : sizedP P) (w0 w : World) (base mb nw nl : Nat) (C : Nat → Value) (M : Mc) (sv lv ov : Value) (cl : Cl) (i cb co cc : Nat) (hC : CR C cl (.slice (some ⟨cb, co, none⟩) P.n cc)) (hcl : OkC cl) (hM : OkM M) (hnw : P.words = nw) (hnl : P.locals = nl) (h : RWs w0 w base mb nw nl C M sv lv ov (i : Int)) (hi : i < P.n) (hcb : cb < base) (a b : Int) (x0 : w.cell? ⟨cb, co + i * 3, none⟩ = some (.int .i64 37)) (x1 : w.cell? ⟨cb, co + i * 3 + 1, none⟩ = some (.int .i64 a)) (x2 : w.cell? ⟨cb, co + i * 3 + 2, none⟩ = some (.int .i64 b)) (hv : insErr P 37 a b = 0) (hf1 : pops 37 ≤ M.hi) (hf2 : (M.hi : Int) - pops 37 + pushes 37 ≤ 64) (h64 : M.hi ≤ 64) :
    Calls Tryz.prog 49 #[.pointer (some ⟨mb, 0, none⟩)] w fun e w' => e = .returned (.int .i64 (doF cl M 37 a b)) ∧ SO w0 w' base mb nw nl C (doF cl M 37 a b) (doM cl M 37 a b) ((i : Int) + 1) := by
  obtain ⟨⟨q1, q2⟩, ⟨q3, q4⟩, q5, q6⟩ := hs
  rw [show pops 37 = 1 from rfl] at hf1 hf2
  rw [show pushes 37 = 1 from rfl] at hf2
  rw [doF_37, doM_37]
  by_cases hn : topM M < 1
  · rw [if_pos hn]
    exact (rstep_37 w0 w base mb nw nl C M sv lv ov cl i P.n cb co cc hC h hi q5 hcb a b x0 x1 x2 _ 208 (fun W s l v hW => rthrow_bad w0 W base mb nw nl C M s l v _ 37 hW (M.hi - 1) (by omega) h64 hn)).mono fun e w' ⟨h1, h2⟩ => ⟨h1, fun h => (by cases h), fun _ => h2⟩
  · rw [if_neg hn]
    exact (rstep_37 w0 w base mb nw nl C M sv lv ov cl i P.n cb co cc hC h hi q5 hcb a b x0 x1 x2 _ 0 (fun W s l v hW => rthrow_37 w0 W base mb nw nl C M s l v _ hW (M.hi - 1) (by omega) h64 ⟨by omega, hM.top.2⟩)).mono fun e w' ⟨h1, h2⟩ => ⟨h1, fun _ => h2, fun h => absurd rfl h⟩
theorem rA_41 (P : Pg) (hs : sizedP P) (w0 w : World) (base mb nw nl : Nat) (C : Nat → Value) (M : Mc) (sv lv ov : Value) (cl : Cl) (i cb co cc : Nat) (hC : CR C cl (.slice (some ⟨cb, co, none⟩) P.n cc)) (hcl : OkC cl) (hM : OkM M) (hnw : P.words = nw) (hnl : P.locals = nl) (h : RWs w0 w base mb nw nl C M sv lv ov (i : Int)) (hi : i < P.n) (hcb : cb < base) (a b : Int) (x0 : w.cell? ⟨cb, co + i * 3, none⟩ = some (.int .i64 41)) (x1 : w.cell? ⟨cb, co + i * 3 + 1, none⟩ = some (.int .i64 a)) (x2 : w.cell? ⟨cb, co + i * 3 + 2, none⟩ = some (.int .i64 b)) (hv : insErr P 41 a b = 0) (hf1 : pops 41 ≤ M.hi) (hf2 : (M.hi : Int) - pops 41 + pushes 41 ≤ 64) (h64 : M.hi ≤ 64) :
    Calls Tryz.prog 49 #[.pointer (some ⟨mb, 0, none⟩)] w fun e w' => e = .returned (.int .i64 (doF cl M 41 a b)) ∧ SO w0 w' base mb nw nl C (doF cl M 41 a b) (doM cl M 41 a b) ((i : Int) + 1) := by
  obtain ⟨⟨q1, q2⟩, ⟨q3, q4⟩, q5, q6⟩ := hs
  rw [show pops 41 = 1 from rfl] at hf1 hf2
  rw [show pushes 41 = 1 from rfl] at hf2
  rw [doF_41, doM_41]
  by_cases hn : topM M < 1
  · rw [if_pos hn]
    exact (rstep_41 w0 w base mb nw nl C M sv lv ov cl i P.n cb co cc hC h hi q5 hcb a b x0 x1 x2 _ 208 (fun W s l v hW => rthrow_bad w0 W base mb nw nl C M s l v _ 41 hW (M.hi - 1) (by omega) h64 hn)).mono fun e w' ⟨h1, h2⟩ => ⟨h1, fun h => (by cases h), fun _ => h2⟩
  · rw [if_neg hn]
    cases hr : waitV M.dice (topM M) with
    | none =>
      rw [if_pos rfl]
      exact (rstep_41 w0 w base mb nw nl C M sv lv ov cl i P.n cb co cc hC h hi q5 hcb a b x0 x1 x2 _ 206 (fun W s l v hW => rthrow_41_none w0 W base mb nw nl C M s l v _ hW (M.hi - 1) (by omega) h64 ⟨by omega, hM.top.2⟩ hr)).mono fun e w' ⟨h1, h2⟩ => ⟨h1, fun h => (by cases h), fun _ => h2⟩
    | some r =>
      rw [if_neg (by intro e; cases e)]
      exact (rstep_41 w0 w base mb nw nl C M sv lv ov cl i P.n cb co cc hC h hi q5 hcb a b x0 x1 x2 _ 0 (fun W s l v hW => rthrow_41 w0 W base mb nw nl C M s l v _ hW (M.hi - 1) (by omega) h64 ⟨by omega, hM.top.2⟩ r hr)).mono fun e w' ⟨h1, h2⟩ => ⟨h1, fun _ => h2, fun h => absurd rfl h⟩
theorem rA_39 (P : Pg) (hs : sizedP P) (w0 w : World) (base mb nw nl : Nat) (C : Nat → Value) (M : Mc) (sv lv ov : Value) (cl : Cl) (i cb co cc : Nat) (hC : CR C cl (.slice (some ⟨cb, co, none⟩) P.n cc)) (hcl : OkC cl) (hM : OkM M) (hnw : P.words = nw) (hnl : P.locals = nl) (h : RWs w0 w base mb nw nl C M sv lv ov (i : Int)) (hi : i < P.n) (hcb : cb < base) (a b : Int) (x0 : w.cell? ⟨cb, co + i * 3, none⟩ = some (.int .i64 39)) (x1 : w.cell? ⟨cb, co + i * 3 + 1, none⟩ = some (.int .i64 a)) (x2 : w.cell? ⟨cb, co + i * 3 + 2, none⟩ = some (.int .i64 b)) (hv : insErr P 39 a b = 0) (hf1 : pops 39 ≤ M.hi) (hf2 : (M.hi : Int) - pops 39 + pushes 39 ≤ 64) (h64 : M.hi ≤ 64) :
    Calls Tryz.prog 49 #[.pointer (some ⟨mb, 0, none⟩)] w fun e w' => e = .returned (.int .i64 (doF cl M 39 a b)) ∧ SO w0 w' base mb nw nl C (doF cl M 39 a b) (doM cl M 39 a b) ((i : Int) + 1) := by
  obtain ⟨⟨q1, q2⟩, ⟨q3, q4⟩, q5, q6⟩ := hs
  rw [show pops 39 = 3 from rfl] at hf1 hf2
  rw [show pushes 39 = 0 from rfl] at hf2
  rw [doF_39, doM_39]
  by_cases hz : sendF cl M (topM M) (topM (popM M)) = 0
  · rw [hz]
    exact (rstep_39 w0 w base mb nw nl C M sv lv ov cl i P.n cb co cc hC h hi q5 hcb a b x0 x1 x2 _ 0 (fun W s l v hW => rsend_ok w0 W base mb nw nl C M s l v _ cl _ hC a hW (M.hi - 3) (by omega) h64 hcl.time hz hM.on)).mono fun e w' ⟨h1, h2⟩ => ⟨h1, fun _ => h2, fun h => absurd rfl h⟩
  · exact (rstep_39 w0 w base mb nw nl C M sv lv ov cl i P.n cb co cc hC h hi q5 hcb a b x0 x1 x2 _ _ (fun W s l v hW => rsend_bad w0 W base mb nw nl C M s l v _ cl _ hC a hW (M.hi - 3) (by omega) h64 hcl.time hz)).mono fun e w' ⟨h1, h2⟩ => ⟨h1, fun h => absurd h hz, fun _ => h2⟩
theorem rA_pair (P : Pg) (hs : sizedP P) (w0 w : World) (base mb nw nl : Nat) (C : Nat → Value) (M : Mc) (sv lv ov : Value) (cl : Cl) (i cb co cc : Nat) (hC : CR C cl (.slice (some ⟨cb, co, none⟩) P.n cc)) (hcl : OkC cl) (hM : OkM M) (hnw : P.words = nw) (hnl : P.locals = nl) (h : RWs w0 w base mb nw nl C M sv lv ov (i : Int)) (hi : i < P.n) (hcb : cb < base) (o a b : Int) (x0 : w.cell? ⟨cb, co + i * 3, none⟩ = some (.int .i64 o)) (x1 : w.cell? ⟨cb, co + i * 3 + 1, none⟩ = some (.int .i64 a)) (x2 : w.cell? ⟨cb, co + i * 3 + 2, none⟩ = some (.int .i64 b)) (hv : insErr P o a b = 0) (hf1 : pops o ≤ M.hi) (hf2 : (M.hi : Int) - pops o + pushes o ≤ 64) (h64 : M.hi ≤ 64) (hp : isPair o) :
    Calls Tryz.prog 49 #[.pointer (some ⟨mb, 0, none⟩)] w fun e w' => e = .returned (.int .i64 (doF cl M o a b)) ∧ SO w0 w' base mb nw nl C (doF cl M o a b) (doM cl M o a b) ((i : Int) + 1) := by
  obtain ⟨⟨q1, q2⟩, ⟨q3, q4⟩, q5, q6⟩ := hs
  rw [(pop_pair hp).1] at hf1
  have hb : isPairB o = true := by unfold isPairB; unfold isPair at hp; simp; omega
  have hF : doF cl M o a b = (pairV o (topM (popM M)) (topM M)).2 := by
    unfold isPair at hp
    unfold doF
    rw [if_neg (by omega), if_neg (by omega), if_neg (by omega), if_neg (by omega), if_neg (by omega), if_neg (by omega), if_pos hb]
  have hD : doM cl M o a b = pushM (popM (popM M)) (pairV o (topM (popM M)) (topM M)).1 := by
    unfold isPair at hp
    unfold doM
    rw [if_neg (by omega), if_neg (by omega), if_neg (by omega), if_neg (by omega), if_neg (by omega), if_neg (by omega), if_neg (by omega), if_neg (by omega), if_neg (by omega), if_neg (by omega), if_neg (by omega), if_neg (by omega), if_neg (by omega), if_neg (by omega), if_neg (by omega), if_neg (by omega), if_neg (by omega), if_pos hb]
  rw [hF, hD]
  exact (rstep_pair w0 w base mb nw nl C M sv lv ov cl i P.n cb co cc hC h hi q5 hcb o a b x0 x1 x2 (ins_op hv) hp hb (M.hi - 2) (by omega) h64 hM.top hM.pop.top).mono fun e w' ⟨h1, h2⟩ => ⟨h1, fun _ => h2, fun _ => by obtain ⟨_, _, _, h2⟩ := h2; exact h2.bel⟩
theorem rstep_any (P : Pg) (hs : sizedP P) (w0 w : World) (base mb nw nl : Nat) (C : Nat → Value) (M : Mc) (sv lv ov : Value) (cl : Cl) (i cb co cc : Nat) (hC : CR C cl (.slice (some ⟨cb, co, none⟩) P.n cc)) (hcl : OkC cl) (hM : OkM M) (hnw : P.words = nw) (hnl : P.locals = nl) (h : RWs w0 w base mb nw nl C M sv lv ov (i : Int)) (hi : i < P.n) (hcb : cb < base) (o a b : Int) (x0 : w.cell? ⟨cb, co + i * 3, none⟩ = some (.int .i64 o)) (x1 : w.cell? ⟨cb, co + i * 3 + 1, none⟩ = some (.int .i64 a)) (x2 : w.cell? ⟨cb, co + i * 3 + 2, none⟩ = some (.int .i64 b)) (hv : insErr P o a b = 0) (hf1 : pops o ≤ M.hi) (hf2 : (M.hi : Int) - pops o + pushes o ≤ 64) (h64 : M.hi ≤ 64) (hne : o ≠ 0 ∧ o ≠ 35 ∧ o ≠ 36) :
    Calls Tryz.prog 49 #[.pointer (some ⟨mb, 0, none⟩)] w fun e w' => e = .returned (.int .i64 (doF cl M o a b)) ∧ SO w0 w' base mb nw nl C (doF cl M o a b) (doM cl M o a b) ((i : Int) + 1) := by
  have ho := ins_op hv
  by_cases hp : isPair o
  · exact rA_pair P hs w0 w base mb nw nl C M sv lv ov cl i cb co cc hC hcl hM hnw hnl h hi hcb o a b x0 x1 x2 hv hf1 hf2 h64 hp
  unfold isPair at hp
  have hc : o = 1 ∨ o = 2 ∨ o = 3 ∨ o = 4 ∨ o = 5 ∨ o = 6 ∨ o = 7 ∨ o = 8 ∨ o = 9 ∨ o = 10 ∨ o = 11 ∨ o = 12 ∨ o = 23 ∨ o = 24 ∨ o = 25 ∨ o = 34 ∨ o = 37 ∨ o = 38 ∨ o = 39 ∨ o = 40 ∨ o = 41 := by omega
  rcases hc with rfl | rfl | rfl | rfl | rfl | rfl | rfl | rfl | rfl | rfl | rfl | rfl | rfl | rfl | rfl | rfl | rfl | rfl | rfl | rfl | rfl
  · exact rA_1 P hs w0 w base mb nw nl C M sv lv ov cl i cb co cc hC hcl hM hnw hnl h hi hcb a b x0 x1 x2 hv hf1 hf2 h64
  · exact rA_2 P hs w0 w base mb nw nl C M sv lv ov cl i cb co cc hC hcl hM hnw hnl h hi hcb a b x0 x1 x2 hv hf1 hf2 h64
  · exact rA_3 P hs w0 w base mb nw nl C M sv lv ov cl i cb co cc hC hcl hM hnw hnl h hi hcb a b x0 x1 x2 hv hf1 hf2 h64
  · exact rA_4 P hs w0 w base mb nw nl C M sv lv ov cl i cb co cc hC hcl hM hnw hnl h hi hcb a b x0 x1 x2 hv hf1 hf2 h64
  · exact rA_5 P hs w0 w base mb nw nl C M sv lv ov cl i cb co cc hC hcl hM hnw hnl h hi hcb a b x0 x1 x2 hv hf1 hf2 h64
  · exact rA_6 P hs w0 w base mb nw nl C M sv lv ov cl i cb co cc hC hcl hM hnw hnl h hi hcb a b x0 x1 x2 hv hf1 hf2 h64
  · exact rA_7 P hs w0 w base mb nw nl C M sv lv ov cl i cb co cc hC hcl hM hnw hnl h hi hcb a b x0 x1 x2 hv hf1 hf2 h64
  · exact rA_8 P hs w0 w base mb nw nl C M sv lv ov cl i cb co cc hC hcl hM hnw hnl h hi hcb a b x0 x1 x2 hv hf1 hf2 h64
  · exact rA_9 P hs w0 w base mb nw nl C M sv lv ov cl i cb co cc hC hcl hM hnw hnl h hi hcb a b x0 x1 x2 hv hf1 hf2 h64
  · exact rA_10 P hs w0 w base mb nw nl C M sv lv ov cl i cb co cc hC hcl hM hnw hnl h hi hcb a b x0 x1 x2 hv hf1 hf2 h64
  · exact rA_11 P hs w0 w base mb nw nl C M sv lv ov cl i cb co cc hC hcl hM hnw hnl h hi hcb a b x0 x1 x2 hv hf1 hf2 h64
  · exact rA_12 P hs w0 w base mb nw nl C M sv lv ov cl i cb co cc hC hcl hM hnw hnl h hi hcb a b x0 x1 x2 hv hf1 hf2 h64
  · exact rA_23 P hs w0 w base mb nw nl C M sv lv ov cl i cb co cc hC hcl hM hnw hnl h hi hcb a b x0 x1 x2 hv hf1 hf2 h64
  · exact rA_24 P hs w0 w base mb nw nl C M sv lv ov cl i cb co cc hC hcl hM hnw hnl h hi hcb a b x0 x1 x2 hv hf1 hf2 h64
  · exact rA_25 P hs w0 w base mb nw nl C M sv lv ov cl i cb co cc hC hcl hM hnw hnl h hi hcb a b x0 x1 x2 hv hf1 hf2 h64
  · exact rA_34 P hs w0 w base mb nw nl C M sv lv ov cl i cb co cc hC hcl hM hnw hnl h hi hcb a b x0 x1 x2 hv hf1 hf2 h64
  · exact rA_37 P hs w0 w base mb nw nl C M sv lv ov cl i cb co cc hC hcl hM hnw hnl h hi hcb a b x0 x1 x2 hv hf1 hf2 h64
  · exact rA_38 P hs w0 w base mb nw nl C M sv lv ov cl i cb co cc hC hcl hM hnw hnl h hi hcb a b x0 x1 x2 hv hf1 hf2 h64
  · exact rA_39 P hs w0 w base mb nw nl C M sv lv ov cl i cb co cc hC hcl hM hnw hnl h hi hcb a b x0 x1 x2 hv hf1 hf2 h64
  · exact rA_40 P hs w0 w base mb nw nl C M sv lv ov cl i cb co cc hC hcl hM hnw hnl h hi hcb a b x0 x1 x2 hv hf1 hf2 h64
  · exact rA_41 P hs w0 w base mb nw nl C M sv lv ov cl i cb co cc hC hcl hM hnw hnl h hi hcb a b x0 x1 x2 hv hf1 hf2 h64
end Go.Proofs.YtciaacckdodhcaaGreat
