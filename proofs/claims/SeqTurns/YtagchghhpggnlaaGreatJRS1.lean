import Derived.Test.YtagchghhpggnlaaGreatJRN17
import Derived.Test.YtagchghhpggnlaaGreatJRN24a
namespace Go.Proofs.YtagchghhpggnlaaGreat
open Go.ChangeShapes Go.WideShapes Go.ChangeAt Go.RowKit
set_option linter.unusedVariables false
set_option linter.unusedSimpArgs false

/-! ### any plan's result, plainly -/
structure RD where
  k : Int
  cd : Int
  x : Se
  n : Nat
  m : Nat
  nw : Nat → Nat
  d : Nat → Int
  s : Nat → Int
  K : Nat → Nat → Int
  Z : Nat → Se
def RunD (p : Pl) (D : RD) : Prop := (∃ c0, VC p c0 ∧ c0 ≠ 0 ∧ D = ⟨6, c0, zeroE, 0, 0, fun _ => 0, fun _ => 0, fun _ => 0, fun _ _ => 0, fun _ => zeroE⟩) ∨ (VC p 0 ∧ ∃ (C : Ab) (k cd : Int) (x : Se), EndR p (fstA p) C ∧ ResK p C k cd x ∧ D = ⟨k, cd, x, p.nq, C.m, p.nw, C.d, C.s, C.K, C.Z⟩)
theorem RunD.one {p : Pl} {D D' : RD} (h : RunD p D) (h' : RunD p D') : D = D' := by
  rcases h with ⟨c, h1, h2, rfl⟩ | ⟨h1, C, k, cd, x, h2, h3, rfl⟩
  · rcases h' with ⟨c', h1', h2', rfl⟩ | ⟨h1', _⟩
    · rw [h1.one h1']
    · exact absurd (h1.one h1') h2
  · rcases h' with ⟨c', h1', h2', rfl⟩ | ⟨h1', C', k', cd', x', h2', h3', rfl⟩
    · exact absurd (h1'.one h1) h2'
    · obtain rfl := h2.one h2'
      obtain ⟨rfl, rfl, rfl⟩ := h3.one h3'
      rfl
structure RDok (D : RD) : Prop where
  n : D.n ≤ 64
  m : D.m ≤ 4096
  nw : ∀ j, j < D.n → D.nw j ≤ 17592186044416
def RDAt (W : World) (D : RD) (q1 : Option Addr) (CC : Nat → Sa) (q3 : Option Addr) : Prop := SsAt W q1 D.n CC D.K ∧ (∀ j, j < D.n → (CC j).n = D.nw j ∧ (CC j).d = D.d j ∧ (CC j).s = D.s j) ∧ SIn W q3 D.m D.Z
theorem RDAt.below {W W' : World} {D : RD} {q1 : Option Addr} {CC : Nat → Sa} {q3 : Option Addr} (h : RDAt W D q1 CC q3) (hb : Below W.heap.size W W') : RDAt W' D q1 CC q3 := ⟨h.1.below hb, h.2.1, h.2.2.below hb⟩
theorem sqRun_all (p : Pl) (v : PlV) (w : World) (h : PlAt w p v) (hr : RoomyL p) (hok : VC p 0 → PlOk p) : Calls Tryz.prog 15 #[.agg #[.int .i64 p.ki, .slice v.pp p.np v.pc, .slice v.tp p.nq v.tc, .slice v.sp p.ns v.sc, .int .u64 p.sd, .int .u64 p.lk, .int .u64 p.en, .int .i64 p.bu, .int .i64 p.fu]] w fun r w' => ∃ (D : RD) (q1 : Option Addr) (c1 : Nat) (CC : Nat → Sa) (q3 : Option Addr) (c3 : Nat), r = .returned (.agg #[.int .i64 D.k, .int .i64 D.cd, .int .u64 D.x.t, .int .i64 D.x.s, .int .u64 D.x.q, .int .i64 0, .slice q1 D.n c1, .slice q3 D.m c3]) ∧ RunD p D ∧ RDok D ∧ RDAt w' D q1 CC q3 ∧ D.m ≤ c3 ∧ Below w.heap.size w w' := by
  obtain ⟨c0, hc0⟩ := VC.some p
  by_cases hz : c0 = 0
  · subst hz
    have hpl := hok hc0
    refine (sqRun_good p v w h hr hc0 hpl).mono ?_
    rintro r w' ⟨C, k, cd, x, q1, c1, CC, q3, c3, h1, h2, h3, rfl, ⟨b, rb, _, hrs⟩, hb⟩
    exact ⟨⟨k, cd, x, p.nq, C.m, p.nw, C.d, C.s, C.K, C.Z⟩, q1, c1, CC, q3, c3, rfl, .inr ⟨hc0, C, k, cd, x, h1, h3, rfl⟩, ⟨hpl.gt.1, by have := h2.m; show C.m ≤ 4096; omega, hr.nw⟩, ⟨hrs.ss, hrs.eq, hrs.tr⟩, hrs.cp, hb⟩
  · refine (sqRun_bad p v w h hr c0 hc0 hz).mono ?_
    rintro r w' ⟨rfl, hb⟩
    exact ⟨⟨6, c0, zeroE, 0, 0, fun _ => 0, fun _ => 0, fun _ => 0, fun _ _ => 0, fun _ => zeroE⟩, none, 0, fun _ => ⟨none, 0, 0, 0, 0⟩, none, 0, rfl, .inl ⟨c0, hc0, hz, rfl⟩, ⟨Nat.zero_le _, Nat.zero_le _, fun j hj => absurd hj (Nat.not_lt_zero _)⟩, ⟨.inl rfl, fun j hj => absurd hj (Nat.not_lt_zero _), .inl rfl⟩, Nat.zero_le _, hb⟩
theorem sameRD (D : RD) (hD : RDok D) (q1 q3 p1 p3 : Option Addr) (c1 c3 d1 d3 : Nat) (CC DD : Nat → Sa) (w : World) (h1 : RDAt w D q1 CC q3) (h2 : RDAt w D p1 DD p3) :
    Calls Tryz.prog 17 #[.agg #[.int .i64 D.k, .int .i64 D.cd, .int .u64 D.x.t, .int .i64 D.x.s, .int .u64 D.x.q, .int .i64 0, .slice q1 D.n c1, .slice q3 D.m c3], .agg #[.int .i64 D.k, .int .i64 D.cd, .int .u64 D.x.t, .int .i64 D.x.s, .int .u64 D.x.q, .int .i64 0, .slice p1 D.n d1, .slice p3 D.m d3]] w fun e w' => e = .returned (.bool true) ∧ Below w.heap.size w w' :=
  sameResult_yes D.k D.cd D.x.t D.x.s D.x.q D.n D.m CC DD D.K D.Z q1 q3 p1 p3 c1 c3 d1 d3 (by have := hD.n; omega) (fun j hj => by rw [(h1.2.1 j hj).1]; exact hD.nw j hj) (fun j hj => by obtain ⟨u1, u2, u3⟩ := h1.2.1 j hj; obtain ⟨v1, v2, v3⟩ := h2.2.1 j hj; exact ⟨v1.trans u1.symm, v2.trans u2.symm, v3.trans u3.symm⟩) (by have := hD.m; omega) w h1.1 h2.1 h1.2.2 h2.2.2
end Go.Proofs.YtagchghhpggnlaaGreat
