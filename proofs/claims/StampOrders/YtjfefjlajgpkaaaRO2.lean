import Derived.Test.YtjfefjlajgpkaaaRO1
import Derived.Test.YtjfefjlajgpkaaaSO9
import Derived.Maps.AppendAt
namespace Go.Proofs.Ytjfefjlajgpkaaa
open Go.ChangeShapes Go.WideShapes Go.ChangeAt Go.RowKit
set_option linter.unusedVariables false
set_option linter.unusedSimpArgs false

theorem SIn.at {W : World} {p : Option Addr} {m : Nat} {X : Nat → Se} (h : SIn W p m X) {i : Nat} (hi : i < m) : ∃ b o, p = some ⟨b, o, none⟩ ∧ b < W.heap.size ∧ W.cell? ⟨b, o + i * 6, none⟩ = some (.int .u64 (X i).t) ∧ W.cell? ⟨b, o + i * 6 + 1, none⟩ = some (.int .i64 (X i).s) ∧ W.cell? ⟨b, o + i * 6 + 2, none⟩ = some (.int .u64 (X i).q) ∧ W.cell? ⟨b, o + i * 6 + 3, none⟩ = some (.int .i64 (X i).d) ∧ W.cell? ⟨b, o + i * 6 + 4, none⟩ = some (.int .i64 (X i).k) ∧ W.cell? ⟨b, o + i * 6 + 5, none⟩ = some (.int .i64 (X i).v) := by
  rcases h with h | ⟨b, o, h1, h2, h3⟩
  · omega
  · have key : ∀ r, r < 6 → W.cell? ⟨b, o + i * 6 + r, none⟩ = some (seC (X i) r) := fun r hr => by
      have := h3 (i * 6 + r) (by omega)
      rw [seF_at _ _ _ hr] at this
      rw [Nat.add_assoc]
      exact this
    exact ⟨b, o, h1, h2, key 0 (by decide), key 1 (by decide), key 2 (by decide), key 3 (by decide), key 4 (by decide), key 5 (by decide)⟩
theorem jm1 {n i j : Nat} (h : i + j < n) : n - (intOf (.int .i64 ((i : Int) + 1))).toNat - (intOf (.int .i64 (j : Int))).toNat < n - (intOf (.int .i64 (i : Int))).toNat - (intOf (.int .i64 (j : Int))).toNat := by
  simp [intOf]
  omega
theorem jm2 {n i j : Nat} (h : i + j < n) : n - (intOf (.int .i64 (i : Int))).toNat - (intOf (.int .i64 ((j : Int) + 1))).toNat < n - (intOf (.int .i64 (i : Int))).toNat - (intOf (.int .i64 (j : Int))).toNat := by
  simp [intOf]
  omega
theorem kc_le (x y : Se) : kc x y ≤ 0 → klt y x = false := by
  intro h
  rw [klt_not]
  have h1 := klt_iff x y
  have h2 : ¬ kc x y < 0 → kc x y = 0 := fun h9 => by omega
  by_cases e : kc x y < 0
  · have : klt x y = true := by unfold klt; simpa using e
    rw [klt_iff] at this
    omega
  · have e0 := h2 e
    unfold kc keyCmp orN at e0
    have a2 := cmpN_z x.t y.t
    have a4 := cmpN_z x.s y.s
    have a6 := cmpN_z x.q y.q
    by_cases b1 : cmpN x.t y.t = 0
    · rw [if_pos b1] at e0
      by_cases b2 : cmpN x.s y.s = 0
      · rw [if_pos b2] at e0
        omega
      · rw [if_neg b2] at e0
        omega
    · rw [if_neg b1] at e0
      omega
theorem kc_gt (x y : Se) (h : ¬ kc x y ≤ 0) : klt y x = true := by
  rw [klt_iff]
  have a1 := cmpN_lt x.t y.t
  have a2 := cmpN_z x.t y.t
  have a3 := cmpN_lt x.s y.s
  have a4 := cmpN_z x.s y.s
  have a5 := cmpN_lt x.q y.q
  have a6 := cmpN_z x.q y.q
  unfold kc keyCmp orN at h
  by_cases b1 : cmpN x.t y.t = 0
  · rw [if_pos b1] at h
    by_cases b2 : cmpN x.s y.s = 0
    · rw [if_pos b2] at h
      omega
    · rw [if_neg b2] at h
      omega
  · rw [if_neg b1] at h
    omega

set_option maxRecDepth 100000 in
set_option maxHeartbeats 4000000 in
theorem rjoin_any {lo la lb : Nat} {pa pb : Option Addr} {ca cb : Nat} {c : Nat → Se} (hn : la + lb ≤ 1000000000000) (W : World) (hA : SIn W pa la (fun k => c (lo + k))) (hB : SIn W pb lb (fun k => c (lo + la + k))) (sa : Srt klt lo (lo + la) c) (sb : Srt klt (lo + la) (lo + la + lb) c) : Calls Try.prog 21 #[.slice pa la ca, .slice pb lb cb] W fun e W' => ∃ v G, e = .returned v ∧ Own W' W.heap.size 51 6 v (la + lb) (seF (fun k => G (lo + k))) ∧ Stb klt lo (lo + la + lb) c G ∧ Srt klt lo (lo + la + lb) G ∧ Below W.heap.size W W' := by
  obtain ⟨iE, hE1, hE2, hE3, hE4⟩ := sinfo infoSE
  have HH : Hid (SIn W pa la (fun k => c (lo + k)) ∧ SIn W pb lb (fun k => c (lo + la + k)) ∧ Srt klt lo (lo + la) c ∧ Srt klt (lo + la) (lo + la + lb) c) := ⟨hA, hB, sa, sb⟩
  clear hA hB sa sb
  go_enter Try.func21, Try.ntmps21
  go_wp2_with fail
  go_loopw [5, 6, 7] (fun v x y wr => ∃ (i j : Nat) (G : Nat → Se), x = .int .i64 (i : Int) ∧ y = .int .i64 (j : Int) ∧ i ≤ la ∧ j ≤ lb ∧ Jn lo (lo + la) (lo + la + lb) c i j G ∧ Own wr W.heap.size 51 6 v (i + j) (seF (fun k => G (lo + k))) ∧ Below W.heap.size W wr) (fun _ x y _ => la + lb - (intOf x).toNat - (intOf y).toNat)
  case atStart => exact ⟨0, 0, c, rfl, rfl, Nat.zero_le _, Nat.zero_le _, Jn.zero, World.ownsRow_nil _ _ _ _, Below.refl _ _⟩
  case round =>
    obtain ⟨i, j, G, rfl, rfl, hi, hj, hJ, ho, hbr⟩ := hrel
    have ei : IntKind.i64.wrap ((i : Int) + 1) = (i : Int) + 1 := by rw [IntKind.wrap_i64]; omega
    have ej : IntKind.i64.wrap ((j : Int) + 1) = (j : Int) + 1 := by rw [IntKind.wrap_i64]; omega
    have i0 : (0 : Int) ≤ (i : Int) := by omega
    have j0 : (0 : Int) ≤ (j : Int) := by omega
    have HJ : Hid (Jn lo (lo + la) (lo + la + lb) c i j G ∧ Own wr W.heap.size 51 6 u5 (i + j) (seF (fun k => G (lo + k))) ∧ Below W.heap.size W wr) := ⟨hJ, ho, hbr⟩
    clear hJ ho hbr
    by_cases hia : i < la
    case neg =>
      have dI : decide ((i : Int) < (la : Int)) = false := by simp; omega
      by_cases hjb : j < lb
      case neg =>
        have dJ : decide ((j : Int) < (lb : Int)) = false := by simp; omega
        go_wp2_with fail
        go_ret
        obtain rfl : i = la := by omega
        obtain rfl : j = lb := by omega
        have hs := HJ.out.1.srt
        exact ⟨_, G, rfl, HJ.out.2.1, HJ.out.1.stb, hs, HJ.out.2.2⟩
      have dJ : decide ((j : Int) < (lb : Int)) = true := by simp; omega
      have eq1 : ((j : Int) == (lb : Int)) = false := by simp; omega
      have eq2 : (j == lb) = false := by simp; omega
      have j1 : (j : Int) < (lb : Int) := by omega
      obtain ⟨bb, ob, hpb, hlb, b0, b1, b2, b3, b4, b5⟩ := (HH.out.2.1.below HJ.out.2.2).at hjb
      subst hpb
      try dsimp only at b0 b1 b2 b3 b4 b5
      go_upto_region 4 with fail
      go_quiet (fail)
      have p1 : i + j + 1 ≤ maxLen := by unfold maxLen; omega
      have p2 : (i + j + 1) * 48 ≤ 140737488355328 := by omega
      have HAP : Hid (((wr.drewN nq).alloc (.cells (seL (c (lo + la + j))).toArray 51)).ownsRow W.heap.size 51 6 u5 (i + j) (cellsF (seF (fun k => G (lo + k))) ((i + j) * 6)) ∧ (∀ k u, (seL (c (lo + la + j)))[k]? = some u → ((wr.drewN nq).alloc (.cells (seL (c (lo + la + j))).toArray 51)).cell? ((⟨(wr.drewN nq).heap.size, 0, none⟩ : Addr).add k) = some u) ∧ Below W.heap.size W ((wr.drewN nq).alloc (.cells (seL (c (lo + la + j))).toArray 51))) := by
        have hb9 : Below wr.heap.size wr (wr.drewN nq) := below_drewNq _ _ _
        have hb8 : Below W.heap.size W (wr.drewN nq) := HJ.out.2.2.trans (hb9.mono HJ.out.2.2.size)
        exact ⟨World.ownsRow.alloc (srow_later HJ.out.2.1 hb9) _, scells_new (wr.drewN nq) (seL (c (lo + la + j))) _, hb8.alloc hb8.size _⟩
      go_wp2_with (at_builtin; refine wpList_append_own_at _ rfl _ _ 23 rfl W.heap.size 51 iE _ 6 48 Try.underlying23 hE1 hE2 hE3 hE4 rfl (by decide) _ _ _ rfl HAP.out.1 ⟨(wr.drewN nq).heap.size, 0, none⟩ 1 1 (seL (c (lo + la + j))) rfl rfl HAP.out.2.1 (by simp [seL, Value.oneCell']) p1 p2 HAP.out.2.2.size ?_; intro v' w9 hown9 hgrow9 _ _)
      have hb9 : Below W.heap.size W w9 := HAP.out.2.2.grown hgrow9 HAP.out.2.2.size (fun r' e => (srow_lt HAP.out.1 r' e).1)
      obtain ⟨k1, k2, k3⟩ := HJ.out.1.right (by omega) (by omega) HH.out.2.2.1 HH.out.2.2.2 (fun h9 => absurd h9 (by omega))
      refine ⟨⟨i, j + 1, _, rfl, rfl, hi, hjb, k1, ?_, hb9⟩, jm2 (by omega)⟩
      rw [se_app (fun k => G (lo + k)) (fun k => rotF G (lo + i + j) (lo + la + j) (lo + la + j + 1) (lo + k)) (i + j) (c (lo + la + j)) (fun k hk => k3 _ (by omega)) (by rw [← Nat.add_assoc]; exact k2)] at hown9
      exact hown9
    have dI : decide ((i : Int) < (la : Int)) = true := by simp; omega
    have i1 : (i : Int) < (la : Int) := by omega
    obtain ⟨ba, oa, hpa, hla, a0, a1, a2, a3, a4, a5⟩ := (HH.out.1.below HJ.out.2.2).at hia
    subst hpa
    try dsimp only at a0 a1 a2 a3 a4 a5
    by_cases hjb : j < lb
    case neg =>
      have dJ : decide ((j : Int) < (lb : Int)) = false := by simp; omega
      have eq1 : ((j : Int) == (lb : Int)) = true := by simp; omega
      have eq2 : (j == lb) = true := by simp; omega
      go_upto_region 4 with fail
      go_quiet (fail)
      have p1 : i + j + 1 ≤ maxLen := by unfold maxLen; omega
      have p2 : (i + j + 1) * 48 ≤ 140737488355328 := by omega
      have HAP : Hid (((wr.drewN nq).alloc (.cells (seL (c (lo + i))).toArray 51)).ownsRow W.heap.size 51 6 u5 (i + j) (cellsF (seF (fun k => G (lo + k))) ((i + j) * 6)) ∧ (∀ k u, (seL (c (lo + i)))[k]? = some u → ((wr.drewN nq).alloc (.cells (seL (c (lo + i))).toArray 51)).cell? ((⟨(wr.drewN nq).heap.size, 0, none⟩ : Addr).add k) = some u) ∧ Below W.heap.size W ((wr.drewN nq).alloc (.cells (seL (c (lo + i))).toArray 51))) := by
        have hb9 : Below wr.heap.size wr (wr.drewN nq) := below_drewNq _ _ _
        have hb8 : Below W.heap.size W (wr.drewN nq) := HJ.out.2.2.trans (hb9.mono HJ.out.2.2.size)
        exact ⟨World.ownsRow.alloc (srow_later HJ.out.2.1 hb9) _, scells_new (wr.drewN nq) (seL (c (lo + i))) _, hb8.alloc hb8.size _⟩
      go_wp2_with (at_builtin; refine wpList_append_own_at _ rfl _ _ 23 rfl W.heap.size 51 iE _ 6 48 Try.underlying23 hE1 hE2 hE3 hE4 rfl (by decide) _ _ _ rfl HAP.out.1 ⟨(wr.drewN nq).heap.size, 0, none⟩ 1 1 (seL (c (lo + i))) rfl rfl HAP.out.2.1 (by simp [seL, Value.oneCell']) p1 p2 HAP.out.2.2.size ?_; intro v' w9 hown9 hgrow9 _ _)
      have hb9 : Below W.heap.size W w9 := HAP.out.2.2.grown hgrow9 HAP.out.2.2.size (fun r' e => (srow_lt HAP.out.1 r' e).1)
      refine ⟨⟨i + 1, j, G, rfl, rfl, hia, hj, HJ.out.1.left (by omega) (by omega) HH.out.2.2.1 HH.out.2.2.2 (fun h9 => absurd h9 (by omega)), ?_, hb9⟩, jm1 (by omega)⟩
      rw [se_app (fun k => G (lo + k)) (fun k => G (lo + k)) (i + j) (c (lo + i)) (fun k hk => rfl) (by rw [← Nat.add_assoc, HJ.out.1.ra _ (Nat.le_refl _) (by omega), show lo + i + j - j = lo + i by omega])] at hown9
      rw [show i + 1 + j = i + j + 1 by omega]
      exact hown9
    have dJ : decide ((j : Int) < (lb : Int)) = true := by simp; omega
    have eq1 : ((j : Int) == (lb : Int)) = false := by simp; omega
    have eq2 : (j == lb) = false := by simp; omega
    have j1 : (j : Int) < (lb : Int) := by omega
    obtain ⟨bb, ob, hpb, hlb, b0, b1, b2, b3, b4, b5⟩ := (HH.out.2.1.below HJ.out.2.2).at hjb
    subst hpb
    try dsimp only at b0 b1 b2 b3 b4 b5
    obtain ⟨r, hr⟩ : ∃ r, kc (c (lo + i)) (c (lo + la + j)) = r := ⟨_, rfl⟩
    have HC : ∀ w', Below wr.heap.size wr w' → Hid (Calls Try.prog 25 #[.agg #[.int .u64 (c (lo + i)).t, .int .i64 (c (lo + i)).s, .int .u64 (c (lo + i)).q], .agg #[.int .u64 (c (lo + la + j)).t, .int .i64 (c (lo + la + j)).s, .int .u64 (c (lo + la + j)).q]] w' fun e w9 => e = .returned (.int .i64 r) ∧ Below wr.heap.size wr w9) := fun w' hb => by
      refine (refCompare_any _ _ _ _ _ _ w').mono ?_
      rintro e w9 ⟨h1, h2⟩
      exact ⟨by rw [h1, ← hr]; rfl, hb.trans (h2.mono hb.size)⟩
    have KK : ∀ w1, Below wr.heap.size wr w1 → Hid ((w1.cell? ⟨ba, oa + i * 6, none⟩ = some (.int .u64 (c (lo + i)).t) ∧ w1.cell? ⟨ba, oa + i * 6 + 1, none⟩ = some (.int .i64 (c (lo + i)).s) ∧ w1.cell? ⟨ba, oa + i * 6 + 2, none⟩ = some (.int .u64 (c (lo + i)).q)) ∧ w1.cell? ⟨bb, ob + j * 6, none⟩ = some (.int .u64 (c (lo + la + j)).t) ∧ w1.cell? ⟨bb, ob + j * 6 + 1, none⟩ = some (.int .i64 (c (lo + la + j)).s) ∧ w1.cell? ⟨bb, ob + j * 6 + 2, none⟩ = some (.int .u64 (c (lo + la + j)).q)) := fun w1 hb => ⟨⟨(cell_below (a := ⟨ba, oa + i * 6, none⟩) hb hla).trans a0, (cell_below (a := ⟨ba, oa + i * 6 + 1, none⟩) hb hla).trans a1, (cell_below (a := ⟨ba, oa + i * 6 + 2, none⟩) hb hla).trans a2⟩, (cell_below (a := ⟨bb, ob + j * 6, none⟩) hb hlb).trans b0, (cell_below (a := ⟨bb, ob + j * 6 + 1, none⟩) hb hlb).trans b1, (cell_below (a := ⟨bb, ob + j * 6 + 2, none⟩) hb hlb).trans b2⟩
    have HRR : Hid (kc (c (lo + i)) (c (lo + la + j)) = r) := hr
    clear hr
    have KA : ∀ w1, Below wr.heap.size wr w1 → w1.cell? ⟨ba, oa + i * 6 + 3, none⟩ = some (.int .i64 (c (lo + i)).d) ∧ w1.cell? ⟨ba, oa + i * 6 + 4, none⟩ = some (.int .i64 (c (lo + i)).k) ∧ w1.cell? ⟨ba, oa + i * 6 + 5, none⟩ = some (.int .i64 (c (lo + i)).v) := fun w1 hb => ⟨(cell_below (a := ⟨ba, oa + i * 6 + 3, none⟩) hb hla).trans a3, (cell_below (a := ⟨ba, oa + i * 6 + 4, none⟩) hb hla).trans a4, (cell_below (a := ⟨ba, oa + i * 6 + 5, none⟩) hb hla).trans a5⟩
    have KB : ∀ w1, Below wr.heap.size wr w1 → w1.cell? ⟨bb, ob + j * 6 + 3, none⟩ = some (.int .i64 (c (lo + la + j)).d) ∧ w1.cell? ⟨bb, ob + j * 6 + 4, none⟩ = some (.int .i64 (c (lo + la + j)).k) ∧ w1.cell? ⟨bb, ob + j * 6 + 5, none⟩ = some (.int .i64 (c (lo + la + j)).v) := fun w1 hb => ⟨(cell_below (a := ⟨bb, ob + j * 6 + 3, none⟩) hb hlb).trans b3, (cell_below (a := ⟨bb, ob + j * 6 + 4, none⟩) hb hlb).trans b4, (cell_below (a := ⟨bb, ob + j * 6 + 5, none⟩) hb hlb).trans b5⟩
    by_cases hle : r ≤ 0
    case pos =>
      have dR : decide (r ≤ 0) = true := by simpa using hle
      go_upto_region 4 with fail
      go_region_held3 (fun w' => (w'.cell? ⟨ba, oa + i * 6, none⟩ = some (.int .u64 (c (lo + i)).t) ∧ w'.cell? ⟨ba, oa + i * 6 + 1, none⟩ = some (.int .i64 (c (lo + i)).s) ∧ w'.cell? ⟨ba, oa + i * 6 + 2, none⟩ = some (.int .u64 (c (lo + i)).q)) ∧ w'.cell? ⟨bb, ob + j * 6, none⟩ = some (.int .u64 (c (lo + la + j)).t) ∧ w'.cell? ⟨bb, ob + j * 6 + 1, none⟩ = some (.int .i64 (c (lo + la + j)).s) ∧ w'.cell? ⟨bb, ob + j * 6 + 2, none⟩ = some (.int .u64 (c (lo + la + j)).q)) (first | exact ⟨⟨a0, a1, a2⟩, b0, b1, b2⟩ | exact KP | go_keep) ((go_at_call 25; (with_reducible refine ((HC _ (Below.drew (Below.refl _ wr))).out).mono ?_); rintro e w1 ⟨rfl, hb1⟩; have KP := (KK w1 hb1).out))
      all_goals (
        obtain ⟨⟨f0, f1, f2⟩, _⟩ := (KK w1 hb1).out
        obtain ⟨f3, f4, f5⟩ := KA w1 hb1
        have p1 : i + j + 1 ≤ maxLen := by unfold maxLen; omega
        have p2 : (i + j + 1) * 48 ≤ 140737488355328 := by omega
        have HAP : Hid ((w1.alloc (.cells (seL (c (lo + i))).toArray 51)).ownsRow W.heap.size 51 6 u5 (i + j) (cellsF (seF (fun k => G (lo + k))) ((i + j) * 6)) ∧ (∀ k u, (seL (c (lo + i)))[k]? = some u → (w1.alloc (.cells (seL (c (lo + i))).toArray 51)).cell? ((⟨w1.heap.size, 0, none⟩ : Addr).add k) = some u) ∧ Below W.heap.size W (w1.alloc (.cells (seL (c (lo + i))).toArray 51))) := by
          have hb9 : Below wr.heap.size wr w1 := hb1
          have hb8 : Below W.heap.size W w1 := HJ.out.2.2.trans (hb9.mono HJ.out.2.2.size)
          exact ⟨World.ownsRow.alloc (srow_later HJ.out.2.1 hb9) _, scells_new w1 (seL (c (lo + i))) _, hb8.alloc hb8.size _⟩
        go_wp2_with (at_builtin; refine wpList_append_own_at _ rfl _ _ 23 rfl W.heap.size 51 iE _ 6 48 Try.underlying23 hE1 hE2 hE3 hE4 rfl (by decide) _ _ _ rfl HAP.out.1 ⟨w1.heap.size, 0, none⟩ 1 1 (seL (c (lo + i))) rfl rfl HAP.out.2.1 (by simp [seL, Value.oneCell']) p1 p2 HAP.out.2.2.size ?_; intro v' w9 hown9 hgrow9 _ _)
        have hb9 : Below W.heap.size W w9 := HAP.out.2.2.grown hgrow9 HAP.out.2.2.size (fun r' e => (srow_lt HAP.out.1 r' e).1)
        refine ⟨⟨i + 1, j, G, rfl, rfl, hia, hj, HJ.out.1.left (by omega) (by omega) HH.out.2.2.1 HH.out.2.2.2 (fun h9 => kc_le _ _ (by rw [HRR.out]; exact hle)), ?_, hb9⟩, jm1 (by omega)⟩
        rw [se_app (fun k => G (lo + k)) (fun k => G (lo + k)) (i + j) (c (lo + i)) (fun k hk => rfl) (by rw [← Nat.add_assoc, HJ.out.1.ra _ (Nat.le_refl _) (by omega), show lo + i + j - j = lo + i by omega])] at hown9
        rw [show i + 1 + j = i + j + 1 by omega]
        exact hown9)
    have dR : decide (r ≤ 0) = false := by simpa using hle
    go_upto_region 4 with fail
    go_region_held3 (fun w' => (w'.cell? ⟨ba, oa + i * 6, none⟩ = some (.int .u64 (c (lo + i)).t) ∧ w'.cell? ⟨ba, oa + i * 6 + 1, none⟩ = some (.int .i64 (c (lo + i)).s) ∧ w'.cell? ⟨ba, oa + i * 6 + 2, none⟩ = some (.int .u64 (c (lo + i)).q)) ∧ w'.cell? ⟨bb, ob + j * 6, none⟩ = some (.int .u64 (c (lo + la + j)).t) ∧ w'.cell? ⟨bb, ob + j * 6 + 1, none⟩ = some (.int .i64 (c (lo + la + j)).s) ∧ w'.cell? ⟨bb, ob + j * 6 + 2, none⟩ = some (.int .u64 (c (lo + la + j)).q)) (first | exact ⟨⟨a0, a1, a2⟩, b0, b1, b2⟩ | exact KP | go_keep) ((go_at_call 25; (with_reducible refine ((HC _ (Below.drew (Below.refl _ wr))).out).mono ?_); rintro e w1 ⟨rfl, hb1⟩; have KP := (KK w1 hb1).out))
    all_goals (
      obtain ⟨_, f0, f1, f2⟩ := (KK w1 hb1).out
      obtain ⟨f3, f4, f5⟩ := KB w1 hb1
      have p1 : i + j + 1 ≤ maxLen := by unfold maxLen; omega
      have p2 : (i + j + 1) * 48 ≤ 140737488355328 := by omega
      have HAP : Hid ((w1.alloc (.cells (seL (c (lo + la + j))).toArray 51)).ownsRow W.heap.size 51 6 u5 (i + j) (cellsF (seF (fun k => G (lo + k))) ((i + j) * 6)) ∧ (∀ k u, (seL (c (lo + la + j)))[k]? = some u → (w1.alloc (.cells (seL (c (lo + la + j))).toArray 51)).cell? ((⟨w1.heap.size, 0, none⟩ : Addr).add k) = some u) ∧ Below W.heap.size W (w1.alloc (.cells (seL (c (lo + la + j))).toArray 51))) := by
        have hb9 : Below wr.heap.size wr w1 := hb1
        have hb8 : Below W.heap.size W w1 := HJ.out.2.2.trans (hb9.mono HJ.out.2.2.size)
        exact ⟨World.ownsRow.alloc (srow_later HJ.out.2.1 hb9) _, scells_new w1 (seL (c (lo + la + j))) _, hb8.alloc hb8.size _⟩
      go_wp2_with (at_builtin; refine wpList_append_own_at _ rfl _ _ 23 rfl W.heap.size 51 iE _ 6 48 Try.underlying23 hE1 hE2 hE3 hE4 rfl (by decide) _ _ _ rfl HAP.out.1 ⟨w1.heap.size, 0, none⟩ 1 1 (seL (c (lo + la + j))) rfl rfl HAP.out.2.1 (by simp [seL, Value.oneCell']) p1 p2 HAP.out.2.2.size ?_; intro v' w9 hown9 hgrow9 _ _)
      have hb9 : Below W.heap.size W w9 := HAP.out.2.2.grown hgrow9 HAP.out.2.2.size (fun r' e => (srow_lt HAP.out.1 r' e).1)
      obtain ⟨k1, k2, k3⟩ := HJ.out.1.right (by omega) (by omega) HH.out.2.2.1 HH.out.2.2.2 (fun h9 => kc_gt _ _ (by rw [HRR.out]; omega))
      refine ⟨⟨i, j + 1, _, rfl, rfl, hi, hjb, k1, ?_, hb9⟩, jm2 (by omega)⟩
      rw [se_app (fun k => G (lo + k)) (fun k => rotF G (lo + i + j) (lo + la + j) (lo + la + j + 1) (lo + k)) (i + j) (c (lo + la + j)) (fun k hk => k3 _ (by omega)) (by rw [← Nat.add_assoc]; exact k2)] at hown9
      exact hown9)
end Go.Proofs.Ytjfefjlajgpkaaa
