import Derived.Test.YtomjnncgogkglaaTP1
import Derived.ChangeOld
namespace Go.Proofs.Ytomjnncgogkglaa
open Go.ChangeShapes Go.WideShapes Go.ChangeAt Go.RowKit
set_option linter.unusedVariables false
set_option linter.unusedSimpArgs false

theorem se_eta (a b : Se) : a = b ↔ (a.t = b.t ∧ a.s = b.s ∧ a.q = b.q ∧ a.d = b.d ∧ a.k = b.k ∧ a.v = b.v) := by
  constructor
  · rintro rfl; simp
  · obtain ⟨⟩ := a; obtain ⟨⟩ := b; rintro ⟨h0, h1, h2, h3, h4, h5⟩; simp at *; simp [*]
theorem neq_se (e f : Se) (W : World) : (binOp .neq 67 (.agg #[.int .u64 e.t, .int .i64 e.s, .int .u64 e.q, .int .i64 e.d, .int .i64 e.k, .int .i64 e.v]) (.agg #[.int .u64 f.t, .int .i64 f.s, .int .u64 f.q, .int .i64 f.d, .int .i64 f.k, .int .i64 f.v])).run Try.prog W = .ok (.bool (!decide (e.t = f.t ∧ e.s = f.s ∧ e.q = f.q ∧ e.d = f.d ∧ e.k = f.k ∧ e.v = f.v))) W := by
  by_cases h0 : e.t = f.t
  · have g0 : (e.t == f.t) = true := by simpa using h0
    by_cases h1 : e.s = f.s
    · have g1 : (e.s == f.s) = true := by simpa using h1
      by_cases h2 : e.q = f.q
      · have g2 : (e.q == f.q) = true := by simpa using h2
        by_cases h3 : e.d = f.d
        · have g3 : (e.d == f.d) = true := by simpa using h3
          by_cases h4 : e.k = f.k
          · have g4 : (e.k == f.k) = true := by simpa using h4
            by_cases h5 : e.v = f.v
            · have g5 : (e.v == f.v) = true := by simpa using h5
              go_simp
              try omega
            · have g5 : (e.v == f.v) = false := by simpa using h5
              go_simp
              try omega
          · have g4 : (e.k == f.k) = false := by simpa using h4
            go_simp
            try omega
        · have g3 : (e.d == f.d) = false := by simpa using h3
          go_simp
          try omega
      · have g2 : (e.q == f.q) = false := by simpa using h2
        go_simp
        try omega
    · have g1 : (e.s == f.s) = false := by simpa using h1
      go_simp
      try omega
  · have g0 : (e.t == f.t) = false := by simpa using h0
    go_simp
    try omega
theorem neq_yes {e f : Se} (h : e ≠ f) (W : World) : (binOp .neq 67 (.agg #[.int .u64 e.t, .int .i64 e.s, .int .u64 e.q, .int .i64 e.d, .int .i64 e.k, .int .i64 e.v]) (.agg #[.int .u64 f.t, .int .i64 f.s, .int .u64 f.q, .int .i64 f.d, .int .i64 f.k, .int .i64 f.v])).run Try.prog W = .ok (.bool true) W := by
  rw [neq_se, decide_eq_false (fun h9 => h ((se_eta _ _).2 h9))]
  rfl
theorem neq_no {e f : Se} (h : e = f) (W : World) : (binOp .neq 67 (.agg #[.int .u64 e.t, .int .i64 e.s, .int .u64 e.q, .int .i64 e.d, .int .i64 e.k, .int .i64 e.v]) (.agg #[.int .u64 f.t, .int .i64 f.s, .int .u64 f.q, .int .i64 f.d, .int .i64 f.k, .int .i64 f.v])).run Try.prog W = .ok (.bool false) W := by
  rw [neq_se, decide_eq_true ((se_eta _ _).1 h)]
  rfl
/-- the first place at which two lists differ -/
def DF (n m : Nat) (X Y : Nat → Se) (d : Int) : Prop := (∃ i : Nat, d = i ∧ i < n ∧ i < m ∧ X i ≠ Y i ∧ ∀ j, j < i → X j = Y j) ∨ (∃ i : Nat, d = i ∧ ((i = n ∧ n < m) ∨ (i = m ∧ m < n)) ∧ ∀ j, j < i → X j = Y j) ∨ (d = -1 ∧ n = m ∧ ∀ j, j < n → X j = Y j)
theorem DF.sym {n m : Nat} {X Y : Nat → Se} {d : Int} (h : DF n m X Y d) : DF m n Y X d := by
  rcases h with ⟨i, h1, h2, h3, h4, h5⟩ | ⟨i, h1, h2, h3⟩ | ⟨h1, h2, h3⟩
  · exact .inl ⟨i, h1, h3, h2, fun e => h4 e.symm, fun j hj => (h5 j hj).symm⟩
  · exact .inr (.inl ⟨i, h1, h2.symm, fun j hj => (h3 j hj).symm⟩)
  · exact .inr (.inr ⟨h1, h2.symm, fun j hj => (h3 j (by omega)).symm⟩)
theorem DF.self {n : Nat} {X : Nat → Se} {d : Int} (h : DF n n X X d) : d = -1 := by
  rcases h with ⟨i, h1, h2, h3, h4, h5⟩ | ⟨i, h1, h2, h3⟩ | ⟨h1, h2, h3⟩
  · exact absurd rfl h4
  · omega
  · exact h1
theorem DF.one {n m : Nat} {X Y : Nat → Se} {d e : Int} (h : DF n m X Y d) (g : DF n m X Y e) : d = e := by
  rcases h with ⟨i, h1, h2, h3, h4, h5⟩ | ⟨i, h1, h2, h3⟩ | ⟨h1, h2, h3⟩ <;> rcases g with ⟨k, g1, g2, g3, g4, g5⟩ | ⟨k, g1, g2, g3⟩ | ⟨g1, g2, g3⟩
  · rcases Nat.lt_trichotomy i k with l | l | l
    · exact absurd (g5 i l) h4
    · omega
    · exact absurd (h5 k l) g4
  · exact absurd (g3 i (by omega)) h4
  · exact absurd (g3 i (by omega)) h4
  · exact absurd (h3 k (by omega)) g4
  · omega
  · omega
  · exact absurd (h3 k (by omega)) g4
  · omega
  · omega
theorem DF.rng {n m : Nat} {X Y : Nat → Se} {d : Int} (h : DF n m X Y d) : -1 ≤ d ∧ d ≤ n := by
  rcases h with ⟨i, h1, h2, h3, h4, h5⟩ | ⟨i, h1, h2, h3⟩ | ⟨h1, h2, h3⟩ <;> omega
set_option maxRecDepth 100000 in
set_option maxHeartbeats 2000000 in
attribute [-go_sem] run_eql_struct run_neq_struct in
theorem diff_anx (ak ac aa0 aa1 aa2 am : Int) (aq ax : Option Addr) (an acq anx acx : Nat) (bk bc ba0 ba1 ba2 bm : Int) (bq bx : Option Addr) (bn bcq bnx bcx : Nat) (X Y : Nat → Se) (hn : anx ≤ 2932031007402) (hm : bnx ≤ 2932031007402) (w : World) (hX : SIn w ax anx X) (hY : SIn w bx bnx Y) (hle : anx ≤ bnx) :
    Calls Try.prog 9 #[.agg #[.int .i64 ak, .int .i64 ac, .int .u64 aa0, .int .i64 aa1, .int .u64 aa2, .int .i64 am, .slice aq an acq, .slice ax anx acx], .agg #[.int .i64 bk, .int .i64 bc, .int .u64 ba0, .int .i64 ba1, .int .u64 ba2, .int .i64 bm, .slice bq bn bcq, .slice bx bnx bcx]] w fun e w' => ∃ d, e = .returned (.int .i64 d) ∧ DF anx bnx X Y d ∧ Below w.heap.size w w' := by
  obtain ⟨wb, hwb, hb0, hbx1, hbx2, hsz⟩ := kboxed2 w #[.int .i64 ak, .int .i64 ac, .int .u64 aa0, .int .i64 aa1, .int .u64 aa2, .int .i64 am, .slice aq an acq, .slice ax anx acx] #[.int .i64 bk, .int .i64 bc, .int .u64 ba0, .int .i64 ba1, .int .u64 ba2, .int .i64 bm, .slice bq bn bcq, .slice bx bnx bcx] 29 29
  have HW : Hid ((w.alloc (.cells #[.int .i64 ak, .int .i64 ac, .int .u64 aa0, .int .i64 aa1, .int .u64 aa2, .int .i64 am, .slice aq an acq, .slice ax anx acx] 29)).alloc (.cells #[.int .i64 bk, .int .i64 bc, .int .u64 ba0, .int .i64 ba1, .int .u64 ba2, .int .i64 bm, .slice bq bn bcq, .slice bx bnx bcx] 29) = wb) := hwb
  have HBX : Hid (Below w.heap.size w wb ∧ wb.heap[w.heap.size]? = some (.cells #[.int .i64 ak, .int .i64 ac, .int .u64 aa0, .int .i64 aa1, .int .u64 aa2, .int .i64 am, .slice aq an acq, .slice ax anx acx] 29 (0, 0)) ∧ wb.heap[w.heap.size + 1]? = some (.cells #[.int .i64 bk, .int .i64 bc, .int .u64 ba0, .int .i64 ba1, .int .u64 ba2, .int .i64 bm, .slice bq bn bcq, .slice bx bnx bcx] 29 (0, 0))) := ⟨hb0, hbx1, hbx2⟩
  have HX : Hid (SIn wb ax anx X) := hX.below hb0
  have HY : Hid (SIn wb bx bnx Y) := hY.below hb0
  obtain ⟨-, -, -, -, -, -, -, c7⟩ := cells8k hbx1
  obtain ⟨-, -, -, -, -, -, -, d7⟩ := cells8k hbx2
  clear hwb hX hY hb0 hbx1 hbx2 hsz
  rw [← HW.out] at c7 d7
  have hdec : decide ((bnx : Int) < (anx : Int)) = false := by simp; omega
  go_enter Try.func9, Try.ntmps9
  go_wp2_with fail
  rw [HW.out]
  clear c7 d7 hdec
  go_loopw [15] (fun v wr => ∃ i : Nat, v = .int .i64 i ∧ i ≤ anx ∧ (∀ j, j < i → X j = Y j) ∧ Below wb.heap.size wb wr) (fun v _ => anx - (intOf v).toNat)
  case atStart => exact ⟨0, rfl, Nat.zero_le _, fun j hj => absurd hj (Nat.not_lt_zero _), Below.refl _ _⟩
  case round =>
    obtain ⟨i, rfl, hi, hpre, hbel⟩ := hrel
    obtain ⟨-, -, -, -, -, -, -, c7⟩ := cells8k ((hbel.block _ (lt_of_block HBX.out.2.1)).trans HBX.out.2.1)
    obtain ⟨-, -, -, -, -, -, -, d7⟩ := cells8k ((hbel.block _ (lt_of_block HBX.out.2.2)).trans HBX.out.2.2)
    have HP : Hid ((∀ j, j < i → X j = Y j) ∧ Below wb.heap.size wb wr) := ⟨hpre, hbel⟩
    by_cases hlt : i < anx
    · have dl : decide ((i : Int) < (anx : Int)) = true := decide_eq_true (by omega)
      have hme := meas hlt
      have i0 : (0 : Int) ≤ (i : Int) := by omega
      have i1 : (i : Int) < (anx : Int) := by omega
      have i2 : (i : Int) < (bnx : Int) := by omega
      have ei : IntKind.i64.wrap ((i : Int) + 1) = (i : Int) + 1 := by rw [IntKind.wrap_i64]; omega
      obtain ⟨g1, o1, hx1, hg1, x0, x1, x2, x3, x4, x5⟩ := (HX.out.below hbel).at (show i < anx by omega)
      obtain ⟨g2, o2, hx2, hg2, y0, y1, y2, y3, y4, y5⟩ := (HY.out.below hbel).at (show i < bnx by omega)
      rw [hx1] at c7
      rw [hx2] at d7
      clear hbel hpre hx1 hx2
      by_cases he : X i = Y i
      · have ne1 := neq_no he
        have HE : Hid (X i = Y i) := he
        clear he
        go_wp2
        go_quiet (fail)
        go_wp2
        refine ⟨⟨i + 1, rfl, hlt, fun j hj => ?_, HP.out.2.trans (below_drewNq _ _ _)⟩, hme⟩
        by_cases e : j = i
        · rw [e]; exact HE.out
        · exact HP.out.1 j (by omega)
      · have ne1 := neq_yes he
        have HE : Hid (X i ≠ Y i) := he
        clear he
        go_wp2
        go_quiet (fail)
        go_wp2
        go_ret
        exact ⟨_, rfl, .inl ⟨i, rfl, by omega, by omega, HE.out, HP.out.1⟩, HBX.out.1.trans ((HP.out.2.trans (below_drewNq _ _ _)).mono HBX.out.1.size)⟩
    · have dl : decide ((i : Int) < (anx : Int)) = false := decide_eq_false (by omega)
      have hi9 : i = anx := by omega
      have HP9 : Hid (∀ j, j < anx → X j = Y j) := fun j hj => HP.out.1 j (by omega)
      clear hbel hpre
      by_cases e9 : anx = bnx
      · have dn : ((anx : Int) == (bnx : Int)) = true := by simp; omega
        go_wp2
        go_ret
        exact ⟨_, rfl, .inr (.inr ⟨rfl, e9, fun j hj => HP9.out j (by omega)⟩), HBX.out.1.trans (HP.out.2.mono HBX.out.1.size)⟩
      · have dn : ((anx : Int) == (bnx : Int)) = false := by simp; omega
        go_wp2
        go_ret
        exact ⟨_, rfl, .inr (.inl ⟨anx, rfl, .inl ⟨rfl, by omega⟩, HP9.out⟩), HBX.out.1.trans (HP.out.2.mono HBX.out.1.size)⟩
set_option maxRecDepth 100000 in
set_option maxHeartbeats 2000000 in
attribute [-go_sem] run_eql_struct run_neq_struct in
theorem diff_bnx (ak ac aa0 aa1 aa2 am : Int) (aq ax : Option Addr) (an acq anx acx : Nat) (bk bc ba0 ba1 ba2 bm : Int) (bq bx : Option Addr) (bn bcq bnx bcx : Nat) (X Y : Nat → Se) (hn : anx ≤ 2932031007402) (hm : bnx ≤ 2932031007402) (w : World) (hX : SIn w ax anx X) (hY : SIn w bx bnx Y) (hle : bnx < anx) :
    Calls Try.prog 9 #[.agg #[.int .i64 ak, .int .i64 ac, .int .u64 aa0, .int .i64 aa1, .int .u64 aa2, .int .i64 am, .slice aq an acq, .slice ax anx acx], .agg #[.int .i64 bk, .int .i64 bc, .int .u64 ba0, .int .i64 ba1, .int .u64 ba2, .int .i64 bm, .slice bq bn bcq, .slice bx bnx bcx]] w fun e w' => ∃ d, e = .returned (.int .i64 d) ∧ DF anx bnx X Y d ∧ Below w.heap.size w w' := by
  obtain ⟨wb, hwb, hb0, hbx1, hbx2, hsz⟩ := kboxed2 w #[.int .i64 ak, .int .i64 ac, .int .u64 aa0, .int .i64 aa1, .int .u64 aa2, .int .i64 am, .slice aq an acq, .slice ax anx acx] #[.int .i64 bk, .int .i64 bc, .int .u64 ba0, .int .i64 ba1, .int .u64 ba2, .int .i64 bm, .slice bq bn bcq, .slice bx bnx bcx] 29 29
  have HW : Hid ((w.alloc (.cells #[.int .i64 ak, .int .i64 ac, .int .u64 aa0, .int .i64 aa1, .int .u64 aa2, .int .i64 am, .slice aq an acq, .slice ax anx acx] 29)).alloc (.cells #[.int .i64 bk, .int .i64 bc, .int .u64 ba0, .int .i64 ba1, .int .u64 ba2, .int .i64 bm, .slice bq bn bcq, .slice bx bnx bcx] 29) = wb) := hwb
  have HBX : Hid (Below w.heap.size w wb ∧ wb.heap[w.heap.size]? = some (.cells #[.int .i64 ak, .int .i64 ac, .int .u64 aa0, .int .i64 aa1, .int .u64 aa2, .int .i64 am, .slice aq an acq, .slice ax anx acx] 29 (0, 0)) ∧ wb.heap[w.heap.size + 1]? = some (.cells #[.int .i64 bk, .int .i64 bc, .int .u64 ba0, .int .i64 ba1, .int .u64 ba2, .int .i64 bm, .slice bq bn bcq, .slice bx bnx bcx] 29 (0, 0))) := ⟨hb0, hbx1, hbx2⟩
  have HX : Hid (SIn wb ax anx X) := hX.below hb0
  have HY : Hid (SIn wb bx bnx Y) := hY.below hb0
  obtain ⟨-, -, -, -, -, -, -, c7⟩ := cells8k hbx1
  obtain ⟨-, -, -, -, -, -, -, d7⟩ := cells8k hbx2
  clear hwb hX hY hb0 hbx1 hbx2 hsz
  rw [← HW.out] at c7 d7
  have hdec : decide ((bnx : Int) < (anx : Int)) = true := by simp; omega
  go_enter Try.func9, Try.ntmps9
  go_wp2_with fail
  rw [HW.out]
  clear c7 d7 hdec
  go_loopw [15] (fun v wr => ∃ i : Nat, v = .int .i64 i ∧ i ≤ bnx ∧ (∀ j, j < i → X j = Y j) ∧ Below wb.heap.size wb wr) (fun v _ => bnx - (intOf v).toNat)
  case atStart => exact ⟨0, rfl, Nat.zero_le _, fun j hj => absurd hj (Nat.not_lt_zero _), Below.refl _ _⟩
  case round =>
    obtain ⟨i, rfl, hi, hpre, hbel⟩ := hrel
    obtain ⟨-, -, -, -, -, -, -, c7⟩ := cells8k ((hbel.block _ (lt_of_block HBX.out.2.1)).trans HBX.out.2.1)
    obtain ⟨-, -, -, -, -, -, -, d7⟩ := cells8k ((hbel.block _ (lt_of_block HBX.out.2.2)).trans HBX.out.2.2)
    have HP : Hid ((∀ j, j < i → X j = Y j) ∧ Below wb.heap.size wb wr) := ⟨hpre, hbel⟩
    by_cases hlt : i < bnx
    · have dl : decide ((i : Int) < (bnx : Int)) = true := decide_eq_true (by omega)
      have hme := meas hlt
      have i0 : (0 : Int) ≤ (i : Int) := by omega
      have i1 : (i : Int) < (anx : Int) := by omega
      have i2 : (i : Int) < (bnx : Int) := by omega
      have ei : IntKind.i64.wrap ((i : Int) + 1) = (i : Int) + 1 := by rw [IntKind.wrap_i64]; omega
      obtain ⟨g1, o1, hx1, hg1, x0, x1, x2, x3, x4, x5⟩ := (HX.out.below hbel).at (show i < anx by omega)
      obtain ⟨g2, o2, hx2, hg2, y0, y1, y2, y3, y4, y5⟩ := (HY.out.below hbel).at (show i < bnx by omega)
      rw [hx1] at c7
      rw [hx2] at d7
      clear hbel hpre hx1 hx2
      by_cases he : X i = Y i
      · have ne1 := neq_no he
        have HE : Hid (X i = Y i) := he
        clear he
        go_wp2
        go_quiet (fail)
        go_wp2
        refine ⟨⟨i + 1, rfl, hlt, fun j hj => ?_, HP.out.2.trans (below_drewNq _ _ _)⟩, hme⟩
        by_cases e : j = i
        · rw [e]; exact HE.out
        · exact HP.out.1 j (by omega)
      · have ne1 := neq_yes he
        have HE : Hid (X i ≠ Y i) := he
        clear he
        go_wp2
        go_quiet (fail)
        go_wp2
        go_ret
        exact ⟨_, rfl, .inl ⟨i, rfl, by omega, by omega, HE.out, HP.out.1⟩, HBX.out.1.trans ((HP.out.2.trans (below_drewNq _ _ _)).mono HBX.out.1.size)⟩
    · have dl : decide ((i : Int) < (bnx : Int)) = false := decide_eq_false (by omega)
      have hi9 : i = bnx := by omega
      have HP9 : Hid (∀ j, j < bnx → X j = Y j) := fun j hj => HP.out.1 j (by omega)
      clear hbel hpre
      have dn : ((anx : Int) == (bnx : Int)) = false := by simp; omega
      go_wp2
      go_ret
      exact ⟨_, rfl, .inr (.inl ⟨bnx, rfl, .inr ⟨rfl, hle⟩, HP9.out⟩), HBX.out.1.trans (HP.out.2.mono HBX.out.1.size)⟩
theorem diff_any (ak ac aa0 aa1 aa2 am : Int) (aq ax : Option Addr) (an acq anx acx : Nat) (bk bc ba0 ba1 ba2 bm : Int) (bq bx : Option Addr) (bn bcq bnx bcx : Nat) (X Y : Nat → Se) (hn : anx ≤ 2932031007402) (hm : bnx ≤ 2932031007402) (w : World) (hX : SIn w ax anx X) (hY : SIn w bx bnx Y) :
    Calls Try.prog 9 #[.agg #[.int .i64 ak, .int .i64 ac, .int .u64 aa0, .int .i64 aa1, .int .u64 aa2, .int .i64 am, .slice aq an acq, .slice ax anx acx], .agg #[.int .i64 bk, .int .i64 bc, .int .u64 ba0, .int .i64 ba1, .int .u64 ba2, .int .i64 bm, .slice bq bn bcq, .slice bx bnx bcx]] w fun e w' => ∃ d, e = .returned (.int .i64 d) ∧ DF anx bnx X Y d ∧ Below w.heap.size w w' := by
  rcases Nat.lt_or_ge bnx anx with h | h
  · exact diff_bnx ak ac aa0 aa1 aa2 am aq ax an acq anx acx bk bc ba0 ba1 ba2 bm bq bx bn bcq bnx bcx X Y hn hm w hX hY h
  · exact diff_anx ak ac aa0 aa1 aa2 am aq ax an acq anx acx bk bc ba0 ba1 ba2 bm bq bx bn bcq bnx bcx X Y hn hm w hX hY h
set_option maxRecDepth 100000 in
set_option maxHeartbeats 2000000 in
attribute [-go_sem] run_eql_struct run_neq_struct in
theorem rdiff_any (ak ac aa0 aa1 aa2 am : Int) (aq ax : Option Addr) (an acq anx acx : Nat) (bk bc ba0 ba1 ba2 bm : Int) (bq bx : Option Addr) (bn bcq bnx bcx : Nat) (X Y : Nat → Se) (hn : anx ≤ 2932031007402) (hm : bnx ≤ 2932031007402) (w : World) (hX : SIn w ax anx X) (hY : SIn w bx bnx Y) :
    Calls Try.prog 10 #[.agg #[.int .i64 ak, .int .i64 ac, .int .u64 aa0, .int .i64 aa1, .int .u64 aa2, .int .i64 am, .slice aq an acq, .slice ax anx acx], .agg #[.int .i64 bk, .int .i64 bc, .int .u64 ba0, .int .i64 ba1, .int .u64 ba2, .int .i64 bm, .slice bq bn bcq, .slice bx bnx bcx]] w fun e w' => ∃ d, e = .returned (.int .i64 d) ∧ DF anx bnx X Y d ∧ Below w.heap.size w w' := by
  obtain ⟨wb, hwb, hb0, hbx1, hbx2, hsz⟩ := kboxed2 w #[.int .i64 ak, .int .i64 ac, .int .u64 aa0, .int .i64 aa1, .int .u64 aa2, .int .i64 am, .slice aq an acq, .slice ax anx acx] #[.int .i64 bk, .int .i64 bc, .int .u64 ba0, .int .i64 ba1, .int .u64 ba2, .int .i64 bm, .slice bq bn bcq, .slice bx bnx bcx] 29 29
  have HW : Hid ((w.alloc (.cells #[.int .i64 ak, .int .i64 ac, .int .u64 aa0, .int .i64 aa1, .int .u64 aa2, .int .i64 am, .slice aq an acq, .slice ax anx acx] 29)).alloc (.cells #[.int .i64 bk, .int .i64 bc, .int .u64 ba0, .int .i64 ba1, .int .u64 ba2, .int .i64 bm, .slice bq bn bcq, .slice bx bnx bcx] 29) = wb) := hwb
  have HBX : Hid (Below w.heap.size w wb ∧ wb.heap[w.heap.size]? = some (.cells #[.int .i64 ak, .int .i64 ac, .int .u64 aa0, .int .i64 aa1, .int .u64 aa2, .int .i64 am, .slice aq an acq, .slice ax anx acx] 29 (0, 0)) ∧ wb.heap[w.heap.size + 1]? = some (.cells #[.int .i64 bk, .int .i64 bc, .int .u64 ba0, .int .i64 ba1, .int .u64 ba2, .int .i64 bm, .slice bq bn bcq, .slice bx bnx bcx] 29 (0, 0))) := ⟨hb0, hbx1, hbx2⟩
  have HX : Hid (SIn wb ax anx X) := hX.below hb0
  have HY : Hid (SIn wb bx bnx Y) := hY.below hb0
  obtain ⟨-, -, -, -, -, -, -, c7⟩ := cells8k hbx1
  obtain ⟨-, -, -, -, -, -, -, d7⟩ := cells8k hbx2
  clear hwb hX hY hb0 hbx1 hbx2 hsz
  clear c7 d7
  go_enter Try.func10, Try.ntmps10
  go_wp2_with fail
  rw [HW.out]
  go_loopw [5] (fun v wr => ∃ i : Nat, v = .int .i64 i ∧ i ≤ anx ∧ i ≤ bnx ∧ (∀ j, j < i → X j = Y j) ∧ Below wb.heap.size wb wr) (fun v _ => anx - (intOf v).toNat)
  case atStart => exact ⟨0, rfl, Nat.zero_le _, Nat.zero_le _, fun j hj => absurd hj (Nat.not_lt_zero _), Below.refl _ _⟩
  case round =>
    obtain ⟨i, rfl, hi, hi', hpre, hbel⟩ := hrel
    obtain ⟨-, -, -, -, -, -, -, c7⟩ := cells8k ((hbel.block _ (lt_of_block HBX.out.2.1)).trans HBX.out.2.1)
    obtain ⟨-, -, -, -, -, -, -, d7⟩ := cells8k ((hbel.block _ (lt_of_block HBX.out.2.2)).trans HBX.out.2.2)
    have HP : Hid ((∀ j, j < i → X j = Y j) ∧ Below wb.heap.size wb wr) := ⟨hpre, hbel⟩
    by_cases h1 : i < anx
    · have da : decide ((i : Int) < (anx : Int)) = true := by simp; omega
      by_cases h2 : i < bnx
      · have db : decide ((i : Int) < (bnx : Int)) = true := by simp; omega
        have hme := meas h1
        have i0 : (0 : Int) ≤ (i : Int) := by omega
        have i1 : (i : Int) < (anx : Int) := by omega
        have i2 : (i : Int) < (bnx : Int) := by omega
        have ei : IntKind.i64.wrap ((i : Int) + 1) = (i : Int) + 1 := by rw [IntKind.wrap_i64]; omega
        obtain ⟨g1, o1, hx1, hg1, x0, x1, x2, x3, x4, x5⟩ := (HX.out.below hbel).at h1
        obtain ⟨g2, o2, hx2, hg2, y0, y1, y2, y3, y4, y5⟩ := (HY.out.below hbel).at h2
        rw [hx1] at c7
        rw [hx2] at d7
        clear hbel hpre hx1 hx2
        by_cases he : X i = Y i
        · have ne1 := neq_no he
          have HE : Hid (X i = Y i) := he
          clear he
          go_wp2
          go_quiet (fail)
          go_wp2
          refine ⟨⟨i + 1, rfl, h1, h2, fun j hj => ?_, HP.out.2.trans (below_drewNq _ _ _)⟩, hme⟩
          by_cases e : j = i
          · rw [e]; exact HE.out
          · exact HP.out.1 j (by omega)
        · have ne1 := neq_yes he
          have HE : Hid (X i ≠ Y i) := he
          clear he
          go_wp2
          go_quiet (fail)
          go_wp2
          go_ret
          exact ⟨_, rfl, .inl ⟨i, rfl, h1, h2, HE.out, HP.out.1⟩, HBX.out.1.trans ((HP.out.2.trans (below_drewNq _ _ _)).mono HBX.out.1.size)⟩
      · have db : decide ((i : Int) < (bnx : Int)) = false := by simp; omega
        clear hbel hpre
        go_wp2
        go_quiet (fail)
        go_wp2
        go_ret
        exact ⟨_, rfl, .inr (.inl ⟨i, rfl, .inr ⟨by omega, by omega⟩, HP.out.1⟩), HBX.out.1.trans ((HP.out.2.trans (below_drewNq _ _ _)).mono HBX.out.1.size)⟩
    · have da : decide ((i : Int) < (anx : Int)) = false := by simp; omega
      by_cases h2 : i < bnx
      · have db : decide ((i : Int) < (bnx : Int)) = true := by simp; omega
        clear hbel hpre
        go_wp2
        go_quiet (fail)
        go_wp2
        go_ret
        exact ⟨_, rfl, .inr (.inl ⟨i, rfl, .inl ⟨by omega, by omega⟩, HP.out.1⟩), HBX.out.1.trans ((HP.out.2.trans (below_drewNq _ _ _)).mono HBX.out.1.size)⟩
      · have db : decide ((i : Int) < (bnx : Int)) = false := by simp; omega
        clear hbel hpre
        go_wp2
        go_ret
        exact ⟨_, rfl, .inr (.inr ⟨rfl, by omega, fun j hj => HP.out.1 j (by omega)⟩), HBX.out.1.trans (HP.out.2.mono HBX.out.1.size)⟩
set_option maxRecDepth 100000 in
set_option maxHeartbeats 2000000 in
theorem diffs_law (ak ac aa0 aa1 aa2 am : Int) (aq ax : Option Addr) (an acq anx acx : Nat) (bk bc ba0 ba1 ba2 bm : Int) (bq bx : Option Addr) (bn bcq bnx bcx : Nat) (X Y : Nat → Se) (hn : anx ≤ 2932031007402) (hm : bnx ≤ 2932031007402) (w : World) (hX : SIn w ax anx X) (hY : SIn w bx bnx Y) :
    Calls Try.prog 3 #[.agg #[.int .i64 ak, .int .i64 ac, .int .u64 aa0, .int .i64 aa1, .int .u64 aa2, .int .i64 am, .slice aq an acq, .slice ax anx acx], .agg #[.int .i64 bk, .int .i64 bc, .int .u64 ba0, .int .i64 ba1, .int .u64 ba2, .int .i64 bm, .slice bq bn bcq, .slice bx bnx bcx]] w fun e w' => e = .returned (.bool true) ∧ Below w.heap.size w w' := by
  obtain ⟨wb, hwb, hb0, hbx1, hbx2, hsz⟩ := kboxed2 w #[.int .i64 ak, .int .i64 ac, .int .u64 aa0, .int .i64 aa1, .int .u64 aa2, .int .i64 am, .slice aq an acq, .slice ax anx acx] #[.int .i64 bk, .int .i64 bc, .int .u64 ba0, .int .i64 ba1, .int .u64 ba2, .int .i64 bm, .slice bq bn bcq, .slice bx bnx bcx] 29 29
  have HW : Hid ((w.alloc (.cells #[.int .i64 ak, .int .i64 ac, .int .u64 aa0, .int .i64 aa1, .int .u64 aa2, .int .i64 am, .slice aq an acq, .slice ax anx acx] 29)).alloc (.cells #[.int .i64 bk, .int .i64 bc, .int .u64 ba0, .int .i64 ba1, .int .u64 ba2, .int .i64 bm, .slice bq bn bcq, .slice bx bnx bcx] 29) = wb) := hwb
  have HBX : Hid (Below w.heap.size w wb ∧ wb.heap[w.heap.size]? = some (.cells #[.int .i64 ak, .int .i64 ac, .int .u64 aa0, .int .i64 aa1, .int .u64 aa2, .int .i64 am, .slice aq an acq, .slice ax anx acx] 29 (0, 0)) ∧ wb.heap[w.heap.size + 1]? = some (.cells #[.int .i64 bk, .int .i64 bc, .int .u64 ba0, .int .i64 ba1, .int .u64 ba2, .int .i64 bm, .slice bq bn bcq, .slice bx bnx bcx] 29 (0, 0))) := ⟨hb0, hbx1, hbx2⟩
  have HX : Hid (SIn wb ax anx X) := hX.below hb0
  have HY : Hid (SIn wb bx bnx Y) := hY.below hb0
  have hA0 := cells8k hbx1
  have hB0 := cells8k hbx2
  clear hwb hX hY hb0 hbx1 hbx2 hsz
  have F1 := fun W (hb : Below wb.heap.size wb W) => diff_any ak ac aa0 aa1 aa2 am aq ax an acq anx acx bk bc ba0 ba1 ba2 bm bq bx bn bcq bnx bcx X Y hn hm W (HX.out.below hb) (HY.out.below hb)
  have F2 := fun W (hb : Below wb.heap.size wb W) => rdiff_any ak ac aa0 aa1 aa2 am aq ax an acq anx acx bk bc ba0 ba1 ba2 bm bq bx bn bcq bnx bcx X Y hn hm W (HX.out.below hb) (HY.out.below hb)
  have F3 := fun W (hb : Below wb.heap.size wb W) => diff_any bk bc ba0 ba1 ba2 bm bq bx bn bcq bnx bcx ak ac aa0 aa1 aa2 am aq ax an acq anx acx Y X hm hn W (HY.out.below hb) (HX.out.below hb)
  have F4 := fun W (hb : Below wb.heap.size wb W) => diff_any ak ac aa0 aa1 aa2 am aq ax an acq anx acx ak ac aa0 aa1 aa2 am aq ax an acq anx acx X X hn hn W (HX.out.below hb) (HX.out.below hb)
  have hcA : ∀ W, Below wb.heap.size wb W → W.heap[w.heap.size]? = some (.cells #[.int .i64 ak, .int .i64 ac, .int .u64 aa0, .int .i64 aa1, .int .u64 aa2, .int .i64 am, .slice aq an acq, .slice ax anx acx] 29 (0, 0)) := fun W hb => (hb.block _ (lt_of_block HBX.out.2.1)).trans HBX.out.2.1
  have hcB : ∀ W, Below wb.heap.size wb W → W.heap[w.heap.size + 1]? = some (.cells #[.int .i64 bk, .int .i64 bc, .int .u64 ba0, .int .i64 ba1, .int .u64 ba2, .int .i64 bm, .slice bq bn bcq, .slice bx bnx bcx] 29 (0, 0)) := fun W hb => (hb.block _ (lt_of_block HBX.out.2.2)).trans HBX.out.2.2
  obtain ⟨c0, c1, c2, c3, c4, c5, c6, c7⟩ := hA0
  obtain ⟨d0, d1, d2, d3, d4, d5, d6, d7⟩ := hB0
  rw [← HW.out] at c0 c1 c2 c3 c4 c5 c6 c7 d0 d1 d2 d3 d4 d5 d6 d7
  go_enter Try.func3, Try.ntmps3
  go_upto_region 2 with (go_at_call 9; rw [HW.out]; (with_reducible refine (F1 _ (Below.refl _ _)).mono ?_); rintro e w1 ⟨x, rfl, hx, hb1⟩; have H1 : Hid (DF anx bnx X Y x ∧ Below wb.heap.size wb w1) := ⟨hx, hb1⟩; clear c0 c1 c2 c3 c4 c5 c6 c7 d0 d1 d2 d3 d4 d5 d6 d7; obtain ⟨c0, c1, c2, c3, c4, c5, c6, c7⟩ := cells8k (hcA _ hb1); obtain ⟨d0, d1, d2, d3, d4, d5, d6, d7⟩ := cells8k (hcB _ hb1); clear hx hb1)
  go_wp2_with (first | (go_at_call 10; (with_reducible refine (F2 _ H1.out.2).mono ?_); rintro e w2 ⟨y, rfl, hy, hb2⟩; have HZ : Hid (Below wb.heap.size wb w2) := H1.out.2.trans (hb2.mono H1.out.2.size); obtain rfl : x = y := H1.out.1.one hy; clear c0 c1 c2 c3 c4 c5 c6 c7 d0 d1 d2 d3 d4 d5 d6 d7; obtain ⟨c0, c1, c2, c3, c4, c5, c6, c7⟩ := cells8k (hcA _ HZ.out); obtain ⟨d0, d1, d2, d3, d4, d5, d6, d7⟩ := cells8k (hcB _ HZ.out); clear hy hb2) | (go_at_call 9; (with_reducible refine (F3 _ HZ.out).mono ?_); rintro e w3 ⟨y, rfl, hy, hb3⟩; have HZ2 : Hid (Below wb.heap.size wb w3) := HZ.out.trans (hb3.mono HZ.out.size); obtain rfl : x = y := H1.out.1.one hy.sym; clear HZ; have HZ := HZ2; clear c0 c1 c2 c3 c4 c5 c6 c7 d0 d1 d2 d3 d4 d5 d6 d7; obtain ⟨c0, c1, c2, c3, c4, c5, c6, c7⟩ := cells8k (hcA _ HZ.out); obtain ⟨d0, d1, d2, d3, d4, d5, d6, d7⟩ := cells8k (hcB _ HZ.out); clear hy hb3) | (go_at_call 9; (with_reducible refine (F4 _ HZ.out).mono ?_); rintro e w4 ⟨y, rfl, hy, hb4⟩; have HZ3 : Hid (Below wb.heap.size wb w4) := HZ.out.trans (hb4.mono HZ.out.size); obtain rfl : y = -1 := hy.self; clear hy hb4))
  go_ret
  exact ⟨rfl, HBX.out.1.trans (HZ3.out.mono HBX.out.1.size)⟩
end Go.Proofs.Ytomjnncgogkglaa
