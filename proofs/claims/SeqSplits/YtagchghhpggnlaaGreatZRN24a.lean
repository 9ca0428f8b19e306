import Derived.Test.YtagchghhpggnlaaGreatZFS5
import Derived.Test.YtagchghhpggnlaaGreatZFS1
import Derived.Test.YtagchghhpggnlaaGreatZRN9
import Derived.Test.YtagchghhpggnlaaGreatZSV2
import Derived.Test.YtagchghhpggnlaaGreatZRN7
import Derived.Test.YtagchghhpggnlaaGreatZSO9
import Derived.Test.YtagchghhpggnlaaGreatZRN16
import Derived.Test.YtagchghhpggnlaaGreatZRN13
namespace Go.Proofs.YtagchghhpggnlaaGreat
open Go.ChangeShapes Go.WideShapes Go.ChangeAt Go.RowKit
set_option linter.unusedVariables false
set_option linter.unusedSimpArgs false

theorem neq_key_same (t s q : Int) (W : World) : (binOp .neq 32 (.agg #[.int .u64 t, .int .i64 s, .int .u64 q]) (.agg #[.int .u64 t, .int .i64 s, .int .u64 q])).run Tryz.prog W = .ok (.bool false) W := by
  go_simp
set_option maxRecDepth 100000 in
set_option maxHeartbeats 1000000 in
attribute [-go_sem] run_eql_struct in
theorem sameResult_yes (k cd t s q : Int) (n m : Nat) (A C : Nat → Sa) (K : Nat → Nat → Int) (X : Nat → Se) (a1 a3 b1 b3 : Option Addr) (c1 c3 d1 d3 : Nat) (hL : n ≤ 4000000000000) (hw : ∀ j, j < n → (A j).n ≤ 17592186044416) (he : ∀ j, j < n → (C j).n = (A j).n ∧ (C j).d = (A j).d ∧ (C j).s = (A j).s) (hM : m ≤ 1000000) (w : World) (h1 : SsAt w a1 n A K) (h2 : SsAt w b1 n C K) (h3 : SIn w a3 m X) (h4 : SIn w b3 m X) :
    Calls Tryz.prog 17 #[.agg #[.int .i64 k, .int .i64 cd, .int .u64 t, .int .i64 s, .int .u64 q, .int .i64 0, .slice a1 n c1, .slice a3 m c3], .agg #[.int .i64 k, .int .i64 cd, .int .u64 t, .int .i64 s, .int .u64 q, .int .i64 0, .slice b1 n d1, .slice b3 m d3]] w fun e w' => e = .returned (.bool true) ∧ Below w.heap.size w w' := by
  obtain ⟨wa, hwa⟩ : ∃ wa, w.alloc (.cells #[.int .i64 k, .int .i64 cd, .int .u64 t, .int .i64 s, .int .u64 q, .int .i64 0, .slice a1 n c1, .slice a3 m c3] 36) = wa := ⟨_, rfl⟩
  obtain ⟨ha0, haox, hasz⟩ := boxed _ _ _ hwa
  obtain ⟨wb, hwb⟩ : ∃ wb, wa.alloc (.cells #[.int .i64 k, .int .i64 cd, .int .u64 t, .int .i64 s, .int .u64 q, .int .i64 0, .slice b1 n d1, .slice b3 m d3] 36) = wb := ⟨_, rfl⟩
  obtain ⟨hb0', hbox, hsz⟩ := boxed _ _ _ hwb
  have hb0 : Below w.heap.size w wb := ha0.trans (hb0'.mono ha0.size)
  have hao := (hb0'.block _ (lt_of_block haox)).trans haox
  rw [hasz] at hbox
  have hwx : (w.alloc (.cells #[.int .i64 k, .int .i64 cd, .int .u64 t, .int .i64 s, .int .u64 q, .int .i64 0, .slice a1 n c1, .slice a3 m c3] 36)).alloc (.cells #[.int .i64 k, .int .i64 cd, .int .u64 t, .int .i64 s, .int .u64 q, .int .i64 0, .slice b1 n d1, .slice b3 m d3] 36) = wb := by rw [hwa, hwb]
  have HS := sameStates_yes n A C K a1 b1 c1 d1 hL hw he wb (h1.below hb0) (h2.below hb0)
  have HE : ∀ W, Below wb.heap.size wb W → Hid (Calls Tryz.prog 16 #[.slice a3 m c3, .slice b3 m d3] W fun e w' => e = .returned (.bool true) ∧ Below W.heap.size W w') := fun W hb => sEvents_yes m X a3 b3 c3 d3 (by omega) W ((h3.below hb0).below hb) ((h4.below hb0).below hb)
  have HB : Hid (Below w.heap.size w wb) := hb0
  have KK : ∀ W, Below wb.heap.size wb W → Hid ((W.cell? ⟨w.heap.size, 7, none⟩ = some (.slice a3 m c3)) ∧ W.cell? ⟨w.heap.size + 1, 7, none⟩ = some (.slice b3 m d3)) := fun W hb => ⟨cell_in ((hb.block _ (lt_of_block hao)).trans hao) rfl, cell_in ((hb.block _ (lt_of_block hbox)).trans hbox) rfl⟩
  have HH : Hid ((w.alloc (.cells #[.int .i64 k, .int .i64 cd, .int .u64 t, .int .i64 s, .int .u64 q, .int .i64 0, .slice a1 n c1, .slice a3 m c3] 36)).alloc (.cells #[.int .i64 k, .int .i64 cd, .int .u64 t, .int .i64 s, .int .u64 q, .int .i64 0, .slice b1 n d1, .slice b3 m d3] 36) = wb) := hwx
  have u0 : wb.cell? ⟨w.heap.size, 0, none⟩ = some (.int .i64 k) := cell_in hao rfl
  have u1 : wb.cell? ⟨w.heap.size, 1, none⟩ = some (.int .i64 cd) := cell_in hao rfl
  have u2 : wb.cell? ⟨w.heap.size, 2, none⟩ = some (.int .u64 t) := cell_in hao rfl
  have u3 : wb.cell? ⟨w.heap.size, 3, none⟩ = some (.int .i64 s) := cell_in hao rfl
  have u4 : wb.cell? ⟨w.heap.size, 4, none⟩ = some (.int .u64 q) := cell_in hao rfl
  have u5 : wb.cell? ⟨w.heap.size, 5, none⟩ = some (.int .i64 0) := cell_in hao rfl
  have u6 : wb.cell? ⟨w.heap.size, 6, none⟩ = some (.slice a1 n c1) := cell_in hao rfl
  have u7 : wb.cell? ⟨w.heap.size, 7, none⟩ = some (.slice a3 m c3) := cell_in hao rfl
  have y0 : wb.cell? ⟨w.heap.size + 1, 0, none⟩ = some (.int .i64 k) := cell_in hbox rfl
  have y1 : wb.cell? ⟨w.heap.size + 1, 1, none⟩ = some (.int .i64 cd) := cell_in hbox rfl
  have y2 : wb.cell? ⟨w.heap.size + 1, 2, none⟩ = some (.int .u64 t) := cell_in hbox rfl
  have y3 : wb.cell? ⟨w.heap.size + 1, 3, none⟩ = some (.int .i64 s) := cell_in hbox rfl
  have y4 : wb.cell? ⟨w.heap.size + 1, 4, none⟩ = some (.int .u64 q) := cell_in hbox rfl
  have y5 : wb.cell? ⟨w.heap.size + 1, 5, none⟩ = some (.int .i64 0) := cell_in hbox rfl
  have y6 : wb.cell? ⟨w.heap.size + 1, 6, none⟩ = some (.slice b1 n d1) := cell_in hbox rfl
  have y7 : wb.cell? ⟨w.heap.size + 1, 7, none⟩ = some (.slice b3 m d3) := cell_in hbox rfl
  have nk : ∀ W, (binOp .neq 32 (.agg #[.int .u64 t, .int .i64 s, .int .u64 q]) (.agg #[.int .u64 t, .int .i64 s, .int .u64 q])).run Tryz.prog W = .ok (.bool false) W := fun W => neq_key_same t s q W
  have n1 : (k != k) = false := by simp
  have n2 : (cd != cd) = false := by simp
  clear hwa ha0 haox hasz hwb hb0' hbox hsz hb0 hao hwx h1 h2 h3 h4 he hw
  go_enter Tryz.func17, Tryz.ntmps17
  go_upto_region 1 with fail
  rw [HH.out]
  go_wp2_with (first | (go_at_call 32; (with_reducible refine HS.mono ?_); rintro e w1 ⟨rfl, hb1⟩; obtain ⟨k1, k2⟩ := (KK w1 hb1).out) | (go_at_call 16; (with_reducible refine (HE w1 hb1).out.mono ?_); rintro e w2 ⟨rfl, hb2⟩))
  go_ret
  exact ⟨rfl, HB.out.trans ((hb1.trans (hb2.mono hb1.size)).mono HB.out.size)⟩
end Go.Proofs.YtagchghhpggnlaaGreat
namespace Go.Proofs.YtagchghhpggnlaaGreat
open Go.ChangeShapes Go.WideShapes Go.ChangeAt Go.RowKit
set_option linter.unusedVariables false
set_option linter.unusedSimpArgs false

theorem VC.some (p : Pl) : ∃ c, VC p c := by
  unfold VC
  by_cases h1 : p.ki < 0 ∨ 32 < p.ki
  · exact ⟨_, .inl ⟨h1, rfl⟩⟩
  by_cases h2 : GP p
  · by_cases h3 : GT p
    · by_cases h4 : GS p
      · by_cases h5 : p.lk = 0
        · exact ⟨_, .inr ⟨h1, .inr ⟨h2, .inr ⟨h3, .inr ⟨h4, .inl ⟨h5, rfl⟩⟩⟩⟩⟩⟩
        by_cases h6 : p.bu < 0 ∨ 4096 < p.bu
        · exact ⟨_, .inr ⟨h1, .inr ⟨h2, .inr ⟨h3, .inr ⟨h4, .inr ⟨h5, .inl ⟨h6, rfl⟩⟩⟩⟩⟩⟩⟩
        by_cases h7 : p.fu < 1 ∨ 4096 < p.fu
        · exact ⟨_, .inr ⟨h1, .inr ⟨h2, .inr ⟨h3, .inr ⟨h4, .inr ⟨h5, .inr ⟨h6, .inl ⟨h7, rfl⟩⟩⟩⟩⟩⟩⟩⟩
        · exact ⟨_, .inr ⟨h1, .inr ⟨h2, .inr ⟨h3, .inr ⟨h4, .inr ⟨h5, .inr ⟨h6, .inr ⟨h7, rfl⟩⟩⟩⟩⟩⟩⟩⟩
      · exact ⟨_, .inr ⟨h1, .inr ⟨h2, .inr ⟨h3, .inl ⟨h4, rfl⟩⟩⟩⟩⟩
    · exact ⟨_, .inr ⟨h1, .inr ⟨h2, .inl ⟨h3, rfl⟩⟩⟩⟩
  · exact ⟨_, .inr ⟨h1, .inl ⟨h2, rfl⟩⟩⟩
theorem SIn.take {W : World} {p : Option Addr} {m k : Nat} {X : Nat → Se} (h : SIn W p m X) (hk : k ≤ m) : SIn W p k X := by
  by_cases h0 : k = 0
  · exact .inl h0
  rcases h with h | ⟨b, o, e, hl, hc⟩
  · omega
  · exact .inr ⟨b, o, e, hl, fun j hj => hc j (by omega)⟩
theorem okVC {p : Pl} (h : PlOk p) : VC p 0 := .inr ⟨by have := h.ki; omega, .inr ⟨h.gp, .inr ⟨h.gt, .inr ⟨h.gs, .inr ⟨by have := h.lk; omega, .inr ⟨by have := h.bu; omega, .inr ⟨by have := h.fu; omega, rfl⟩⟩⟩⟩⟩⟩⟩
end Go.Proofs.YtagchghhpggnlaaGreat
namespace Go.Proofs.YtagchghhpggnlaaGreat
open Go.ChangeShapes Go.WideShapes Go.ChangeAt Go.RowKit
set_option linter.unusedVariables false
set_option linter.unusedSimpArgs false

theorem StepsR.zs {p : Pl} {A : Ab} {n : Nat} {B : Ab} (h : StepsR p A n B) : ∀ i, i < A.m → B.Z i = A.Z i := by
  induction h with
  | zero => exact fun _ _ => rfl
  | more h1 h2 ih =>
    intro i hi
    have hm := h1.m
    rcases h2 with ⟨_, e, _⟩ | ⟨_, y, _, ⟨e, e', _⟩ | ⟨_, _, rfl, rfl⟩⟩
    · cases e
    · exact absurd e'.symm e
    · show setS _ _ _ i = _
      unfold setS
      rw [if_neg (by omega)]
      exact ih i hi
theorem StepsR.cut {p : Pl} {A : Ab} {n : Nat} {B : Ab} (h : StepsR p A n B) : ∀ m, m ≤ n → ∃ B', StepsR p A m B' ∧ ∀ i, i < A.m + m → B.Z i = B'.Z i := by
  induction h with
  | zero =>
    intro m hm
    obtain rfl : m = 0 := by omega
    exact ⟨A, .zero, fun _ _ => rfl⟩
  | more h1 h2 ih =>
    rename_i n B C x
    intro m hm
    by_cases e : m = n + 1
    · subst e
      exact ⟨C, h1.more h2, fun _ _ => rfl⟩
    · obtain ⟨B', hB', hz⟩ := ih m (by omega)
      refine ⟨B', hB', fun i hi => ?_⟩
      have hm1 := h1.m
      have hm2 := hB'.m
      rcases h2 with ⟨_, e, _⟩ | ⟨_, y, _, ⟨e, e', _⟩ | ⟨_, _, rfl, rfl⟩⟩
      · cases e
      · exact absurd e'.symm e
      · show setS _ _ _ i = _
        unfold setS
        rw [if_neg (by omega)]
        exact hz i hi
theorem steps_f {p : Pl} {A : Ab} (ha : A.f = 0) {n : Nat} {B : Ab} (h : StepsR p A n B) : B.f = 0 := by
  induction h with
  | zero => exact ha
  | more k1 k2 ih =>
    rcases k2 with ⟨_, e, _⟩ | ⟨_, y, _, ⟨e, e', _⟩ | ⟨_, _, _, rfl⟩⟩
    · cases e
    · exact absurd e'.symm e
    · exact ih
end Go.Proofs.YtagchghhpggnlaaGreat
