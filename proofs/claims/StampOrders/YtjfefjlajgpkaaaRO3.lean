import Derived.Test.YtjfefjlajgpkaaaRO2
namespace Go.Proofs.Ytjfefjlajgpkaaa
open Go.ChangeShapes Go.WideShapes Go.ChangeAt Go.RowKit
set_option linter.unusedVariables false
set_option linter.unusedSimpArgs false

theorem se_cat (O Q : Nat → Se) (n m : Nat) (h : ∀ k, k < n → Q k = O k) : cellsF (seF O) (n * 6) ++ cellsF (seF (fun k => Q (n + k))) (m * 6) = cellsF (seF Q) ((n + m) * 6) := by
  rw [cellsF_append, show (n + m) * 6 = n * 6 + m * 6 by omega]
  refine cellsF_congr fun j hj => ?_
  by_cases x : j < n * 6
  · rw [if_pos x]
    unfold seF
    rw [h (j / 6) (by omega)]
  · rw [if_neg x]
    unfold seF
    dsimp only
    rw [show n + (j - n * 6) / 6 = j / 6 by omega, show (j - n * 6) % 6 = j % 6 by omega]
theorem own_sin {W : World} {base g n cap : Nat} {c : Nat → Se} (h : Own W base 51 6 (.slice (some ⟨g, 0, none⟩) n cap) n (seF c)) (i m : Nat) (hm : i + m ≤ n) : SIn W (some ⟨g, i * 6, none⟩) m (fun k => c (i + k)) := by
  refine .inr ⟨g, i * 6, rfl, (Own.lt h g rfl).2, fun j hj => ?_⟩
  rw [Own.cell h (j := i * 6 + j) (by omega)]
  unfold seF
  rw [show (i * 6 + j) / 6 = i + j / 6 by omega, show (i * 6 + j) % 6 = j % 6 by omega]
theorem ifp {cap m : Nat} {a b : Option Addr} {e : Nat} (h : cap = m → e = m) : (if cap = m then a else b) = b ∨ e = m := by
  by_cases x : cap = m
  · exact .inr (h x)
  · exact .inl (if_neg x)
theorem dvd_next {s a i : Nat} (h1 : s ∣ a) (h2 : s ∣ i) (h : a < i) : a + s ≤ i := by
  obtain ⟨x, rfl⟩ := h1
  obtain ⟨y, rfl⟩ := h2
  have : x < y := Nat.lt_of_mul_lt_mul_left h
  calc s * x + s = s * (x + 1) := by rw [Nat.mul_succ]
    _ ≤ s * y := Nat.mul_le_mul_left s this
theorem own_some {W : World} {base n : Nat} {v : Value} {F : Nat → Value} (h : Own W base 51 6 v n F) (hn : 0 < n) : ∃ g c, v = .slice (some ⟨g, 0, none⟩) n c ∧ g < W.heap.size := by
  rcases Own.form h with ⟨_, h0⟩ | ⟨g, c, h1, _, h3⟩
  · omega
  · exact ⟨g, c, h1, h3⟩
theorem own_new {W : World} {base g n cap : Nat} {c : Nat → Se} (h : Own W base 51 6 (.slice (some ⟨g, 0, none⟩) n cap) n (seF c)) : ∀ k u, (cellsF (seF c) (n * 6))[k]? = some u → W.cell? ((⟨g, 0, none⟩ : Addr).add k) = some u := fun k u hk => by
  have hlt : k < n * 6 := by
    have := List.getElem?_eq_some_iff.1 hk
    obtain ⟨h1, _⟩ := this
    rw [cellsF_len] at h1
    exact h1
  rw [cellsF_at _ hlt] at hk
  rw [addr_add0, Nat.zero_add, Own.cell h hlt]
  exact hk
theorem seF_ones (c : Nat → Se) (n : Nat) : ∀ u ∈ cellsF (seF c) n, u.oneCell' = true := fun u hu => by
  obtain ⟨k, hk, rfl⟩ := List.getElem_of_mem hu
  rw [cellsF_len] at hk
  have h1 := cellsF_at (seF c) hk
  rw [List.getElem?_eq_getElem (by rw [cellsF_len]; exact hk)] at h1
  rw [Option.some.inj h1]
  exact seF_one c k
set_option maxRecDepth 100000 in
set_option maxHeartbeats 8000000 in
theorem rorder_pos (b o n cp : Nat) (X : Nat → Se) (hn : n ≤ 1000000000000) (hp : 0 < n) (w : World) (hb : b < w.heap.size) (hc : ∀ j, j < n * 6 → w.cell? ⟨b, o + j, none⟩ = some (seF X j)) : Calls Try.prog 7 #[.slice (some ⟨b, o, none⟩) n cp] w fun e w' => ∃ v d, e = .returned v ∧ Own w' w.heap.size 51 6 v n (seF d) ∧ Stb klt 0 n X d ∧ Srt klt 0 n d ∧ Below w.heap.size w w' := by
  obtain ⟨iE, hE1, hE2, hE3, hE4⟩ := sinfo infoSE
  have p1 : 0 + n ≤ maxLen := by unfold maxLen; omega
  have p2 : (0 + n) * 48 ≤ 140737488355328 := by omega
  have HN : Hid (∀ k u, (cellsF (seF X) (n * 6))[k]? = some u → w.cell? ((⟨b, o, none⟩ : Addr).add k) = some u) := fun k u hk => by
    have hlt : k < n * 6 := by
      obtain ⟨h1, _⟩ := List.getElem?_eq_some_iff.1 hk
      rw [cellsF_len] at h1
      exact h1
    rw [cellsF_at _ hlt] at hk
    rw [addr_add0, hc k hlt]
    exact hk
  clear hc
  go_enter Try.func7, Try.ntmps7
  go_wp2_with (at_builtin; refine wpList_append_own_at _ rfl _ _ 23 rfl w.heap.size 51 iE _ 6 48 Try.underlying23 hE1 hE2 hE3 hE4 rfl (by decide) _ 0 [] rfl (World.ownsRow_nil _ _ _ _) ⟨b, o, none⟩ n cp (cellsF (seF X) (n * 6)) rfl (cellsF_len _ _) HN.out (seF_ones X _) p1 p2 (Nat.le_refl _) ?_; intro v0 w0 hown0 hgrow0 _ _)
  have hO0 : Own w0 w.heap.size 51 6 v0 n (seF X) := by
    rw [Nat.zero_add, List.nil_append] at hown0
    exact hown0
  have hB0 : Below w.heap.size w w0 := (Below.refl _ w).grown hgrow0 (Nat.le_refl _) (fun r' e => by cases e)
  clear hown0 hgrow0 HN
  go_loopw [3, 4] (fun v x wr => ∃ (sz : Nat) (c : Nat → Se), x = .int .i64 (sz : Int) ∧ 1 ≤ sz ∧ sz ≤ 2 * n ∧ Own wr w.heap.size 51 6 v n (seF c) ∧ Stb klt 0 n X c ∧ (∀ a, sz ∣ a → Srt klt a (min (a + sz) n) c) ∧ Below w.heap.size w wr) (fun _ x _ => n - (intOf x).toNat)
  case atStart => exact ⟨1, X, rfl, Nat.le_refl _, by omega, hO0, Stb.refl _ _ _, fun a _ => Srt.small (by omega), hB0⟩
  case round =>
    obtain ⟨sz, c, rfl, hz1, hz2, ho, hst, hsr, hbr⟩ := hrel
    clear hO0 hB0
    rcases Own.form ho with ⟨_, h0⟩ | ⟨g, cap, hv, hg1, hg2⟩
    · omega
    subst hv
    obtain ⟨_, _, _, hcap, _⟩ := Own.block ho
    by_cases hlt : sz < n
    case neg =>
      have dlt : decide ((sz : Int) < (n : Int)) = false := by simp; omega
      go_wp2_with fail
      go_ret
      have hs0 := hsr 0 (Nat.dvd_zero _)
      rw [Nat.zero_add, Nat.min_eq_right (by omega)] at hs0
      exact ⟨_, c, rfl, ho, hst, hs0, hbr⟩
    have dlt : decide ((sz : Int) < (n : Int)) = true := by simp; omega
    have e2 : IntKind.i64.wrap (2 * (sz : Int)) = ((2 * sz : Nat) : Int) := by rw [IntKind.wrap_i64]; omega
    have hmo : n - (intOf (.int .i64 ((2 * sz : Nat) : Int))).toNat < n - (intOf (.int .i64 (sz : Int))).toNat := by simp [intOf]; omega
    obtain ⟨s2, hs2⟩ : ∃ s2, 2 * sz = s2 := ⟨_, rfl⟩
    rw [hs2] at e2 hmo
    have HO : Hid (Own wr w.heap.size 51 6 (.slice (some ⟨g, 0, none⟩) n cap) n (seF c) ∧ Stb klt 0 n X c ∧ (∀ a, sz ∣ a → Srt klt a (min (a + sz) n) c) ∧ Below w.heap.size w wr ∧ 2 * sz = s2) := ⟨ho, hst, hsr, hbr, hs2⟩
    have hs2' : sz + sz = s2 := by omega
    clear ho hst hsr hbr hs2
    go_wp2_with fail
    go_loopw [5, 6] (fun v x w9 => ∃ (i : Nat) (E : Nat → Se), x = .int .i64 (i : Int) ∧ s2 ∣ i ∧ i ≤ n + s2 ∧ Own w9 w.heap.size 51 6 v (min i n) (seF E) ∧ (∀ k, v.ownBlock = some k → k ≠ g) ∧ Own w9 w.heap.size 51 6 (.slice (some ⟨g, 0, none⟩) n cap) n (seF c) ∧ Stb klt 0 n c E ∧ (∀ t, i ≤ t → E t = c t) ∧ (∀ a, s2 ∣ a → a < i → Srt klt a (min (a + s2) n) E) ∧ Below w.heap.size w w9) (fun _ x _ => n - (intOf x).toNat)
    case atStart => exact ⟨0, c, rfl, Nat.dvd_zero _, by omega, (by rw [Nat.zero_min]; exact World.ownsRow_nil _ _ _ _), (by simp [Value.ownBlock]), HO.out.1, Stb.refl _ _ _, fun _ _ => rfl, fun a _ h9 => absurd h9 (Nat.not_lt_zero _), HO.out.2.2.2.1⟩
    case round =>
      obtain ⟨i, E, rfl, hd, hi, ho5, hne, ho3, hst, hEc, hsr, hb9⟩ := hrel
      by_cases hin : i < n
      case neg =>
        have din : decide ((i : Int) < (n : Int)) = false := by simp; omega
        rw [Nat.min_eq_right (by omega)] at ho5
        go_wp2_with fail
        refine ⟨⟨s2, E, rfl, by omega, by omega, ho5, HO.out.2.1.trans hst, fun a ha => ?_, hb9⟩, hmo⟩
        by_cases e : a < i
        · exact hsr a ha e
        · exact Srt.small (by omega)
      have din : decide ((i : Int) < (n : Int)) = true := by simp; omega
      rw [Nat.min_eq_left (by omega)] at ho5
      obtain ⟨mid, hmid⟩ : ∃ mid, min (i + sz) n = mid := ⟨_, rfl⟩
      obtain ⟨en, hen⟩ : ∃ en, min (i + s2) n = en := ⟨_, rfl⟩
      obtain ⟨mr, hmr⟩ : ∃ mr, i + sz = mr := ⟨_, rfl⟩
      obtain ⟨er, her⟩ : ∃ er, i + s2 = er := ⟨_, rfl⟩
      have m1 : IntKind.i64.wrap ((i : Int) + (sz : Int)) = (mr : Int) := by rw [IntKind.wrap_i64]; omega
      have m2 : IntKind.i64.wrap ((i : Int) + (s2 : Int)) = (er : Int) := by rw [IntKind.wrap_i64]; omega
      have hmi : n - (intOf (.int .i64 (er : Int))).toNat < n - (intOf (.int .i64 (i : Int))).toNat := by simp [intOf]; omega
      have hsi : sz ∣ i := Nat.dvd_trans ⟨2, by omega⟩ hd
      have sA : Srt klt i mid E := by
        have h9 := HO.out.2.2.1 i hsi
        rw [hmid] at h9
        exact h9.congr fun t t1 _ => hEc t t1
      have sB : Srt klt mid en E := by
        by_cases e : i + sz ≤ n
        · have h9 := HO.out.2.2.1 (i + sz) (Nat.dvd_add hsi (Nat.dvd_refl _))
          rw [show i + sz + sz = i + s2 by omega, hen] at h9
          rw [show i + sz = mid by omega] at h9
          exact h9.congr fun t t1 _ => hEc t (by omega)
        · exact Srt.small (by omega)
      have HI : Hid (Own wr w.heap.size 51 6 u5 i (seF E) ∧ (∀ k, u5.ownBlock = some k → k ≠ g) ∧ Own wr w.heap.size 51 6 (.slice (some ⟨g, 0, none⟩) n cap) n (seF c) ∧ Stb klt 0 n c E ∧ (∀ t, i ≤ t → E t = c t) ∧ (∀ a, s2 ∣ a → a < i → Srt klt a (min (a + s2) n) E) ∧ Below w.heap.size w wr ∧ s2 ∣ i ∧ Srt klt i mid E ∧ Srt klt mid en E) := ⟨ho5, hne, ho3, hst, hEc, hsr, hb9, hd, sA, sB⟩
      have HM : Hid (min (i + sz) n = mid ∧ min (i + s2) n = en ∧ i < mid ∧ mid ≤ en ∧ en ≤ n ∧ n ≤ cap ∧ i < en ∧ i + sz = mr ∧ i + s2 = er) := ⟨hmid, hen, by omega, by omega, by omega, by omega, by omega, hmr, her⟩
      clear ho5 hne ho3 hst hEc hsr hb9 hd hsi sA sB hmid hen hmr her
      have HJ : ∀ (w' : World) (q0 q : Option Addr) (ca cb : Nat), Below wr.heap.size wr w' → q0 = some ⟨g, i * 6, none⟩ → (q = some ⟨g, mid * 6, none⟩ ∨ en = mid) → Hid (Calls Try.prog 21 #[.slice q0 (mid - i) ca, .slice q (en - mid) cb] w' fun e w7 => ∃ v G, e = .returned v ∧ Own w7 w'.heap.size 51 6 v (en - i) (seF (fun k => G (i + k))) ∧ Stb klt i en E G ∧ Srt klt i en G ∧ Below wr.heap.size wr w7) := fun w' q0 q ca cb hb hq0 hq => by
        subst hq0
        obtain ⟨q1, q2, q3, q4, q5, q6, q7, _, _⟩ := HM.out
        have e1 : i + (mid - i) = mid := by omega
        have e3 : i + (mid - i) + (en - mid) = en := by omega
        have e4 : mid - i + (en - mid) = en - i := by omega
        have hrow := Own.later HI.out.2.2.1 hb
        have s1 : SIn w' (some ⟨g, i * 6, none⟩) (mid - i) (fun k => E (i + k)) := by
          rcases own_sin hrow i (mid - i) (by omega) with h9 | ⟨b9, o9, h7, h8, h9⟩
          · exact .inl h9
          · refine .inr ⟨b9, o9, h7, h8, fun j hj => (h9 j hj).trans ?_⟩
            unfold seF
            dsimp only
            rw [HI.out.2.2.2.2.1 (i + j / 6) (by omega)]
        have s3 : SIn w' q (en - mid) (fun k => E (i + (mid - i) + k)) := by
          rcases hq with hq | hq
          · rw [hq]
            rcases own_sin hrow mid (en - mid) (by omega) with h9 | ⟨b9, o9, h7, h8, h9⟩
            · exact .inl h9
            · refine .inr ⟨b9, o9, h7, h8, fun j hj => (h9 j hj).trans ?_⟩
              unfold seF
              dsimp only
              rw [e1, HI.out.2.2.2.2.1 (mid + j / 6) (by omega)]
          · exact .inl (by omega)
        refine (rjoin_any (lo := i) (la := mid - i) (lb := en - mid) (c := E) (by omega) w' s1 s3 (by rw [e1]; exact HI.out.2.2.2.2.2.2.2.2.1) (by rw [e1, show mid + (en - mid) = en by omega]; exact HI.out.2.2.2.2.2.2.2.2.2)).mono ?_
        rintro e w7 ⟨v, G, h1, h2, h3, h4, h5⟩
        rw [e4] at h2
        rw [e3] at h3 h4
        exact ⟨v, G, h1, h2, h3, h4, hb.trans (h5.mono hb.size)⟩
      have t0 : (0 : Int) ≤ (i : Int) := by omega
      have k0 : wr.cell? ⟨g, 0, none⟩ = some (.int .u64 (c 0).t) := Own.cell HI.out.2.2.1 (j := 0) (by omega)
      by_cases hc1 : i + s2 ≤ n
      · obtain ⟨q1, q2, q3, q4, q5, q6, q7, q8, q9⟩ := HM.out
        have g1 : mid = mr := by omega
        have g2 : en = er := by omega
        clear q1 q2
        subst mid
        subst en
        have dm : decide ((n : Int) < (mr : Int)) = false := by simp; omega
        have dmn : decide (n < mr) = false := by simp; omega
        have de : decide ((n : Int) < (er : Int)) = false := by simp; omega
        have den : decide (n < er) = false := by simp; omega
        have t1 : (i : Int) ≤ (mr : Int) := by omega
        have t2 : (mr : Int) ≤ (cap : Int) := by omega
        have t3 : (mr : Int) ≤ (er : Int) := by omega
        have t4 : (er : Int) ≤ (cap : Int) := by omega
        have t5 : (0 : Int) ≤ (mr : Int) := by omega
        have t6 : i ≤ mr := by omega
        have t7 : mr ≤ er := by omega
        have u1 : ¬ cap = i := by omega
        have HQ : Hid (i < mr ∧ mr ≤ er ∧ er ≤ n ∧ n ≤ cap ∧ i < er ∧ i + sz = mr ∧ i + s2 = er ∧ min er n = er) := ⟨by omega, by omega, by omega, by omega, by omega, q8, q9, by omega⟩
        have u2 : ¬ cap = mr := by omega
        clear q3 q4 q5 q6 q7 q8 q9
        have HR9 : ∀ ca cb, Hid (Calls Try.prog 21 #[.slice (some ⟨g, i * 6, none⟩) (mr - i) ca, .slice (some ⟨g, mr * 6, none⟩) (er - mr) cb] wr.drew fun e w7 => ∃ v G, e = .returned v ∧ Own w7 wr.drew.heap.size 51 6 v (er - i) (seF (fun k => G (i + k))) ∧ Stb klt i er E G ∧ Srt klt i er G ∧ Below wr.heap.size wr w7) := fun ca cb => by
          have h9 := HJ wr.drew (some ⟨g, i * 6, none⟩) (some ⟨g, mr * 6, none⟩) ca cb (Below.drew (Below.refl _ wr)) rfl (.inl rfl)
          skip
          exact h9
        go_upto_region 15 with fail
        go_region_held3 (fun w' => w'.cell? ⟨g, 0, none⟩ = some (.int .u64 (c 0).t)) (first | exact k0 | exact KP | go_keep) ((go_at_call 21; (with_reducible refine ((HR9 _ _).out).mono ?_); rintro e w7 ⟨v7, G, rfl, h2, h3, h4, h5⟩; have KP : w7.cell? ⟨g, 0, none⟩ = some (.int .u64 (c 0).t) := (cell_below (a := ⟨g, 0, none⟩) h5 (Own.lt HI.out.2.2.1 g rfl).2).trans k0; obtain ⟨g7, c7, hv7, hg7⟩ : ∃ g7 c7, v7 = .slice (some ⟨g7, 0, none⟩) (er - i) c7 ∧ g7 < w7.heap.size := own_some h2 (by have := HQ.out; omega); subst hv7; have H7 : Hid (Own w7 w.heap.size 51 6 u5 i (seF E) ∧ Own w7 wr.drew.heap.size 51 6 (.slice (some ⟨g7, 0, none⟩) (er - i) c7) (er - i) (seF (fun k => G (i + k))) ∧ Own w7 w.heap.size 51 6 (.slice (some ⟨g, 0, none⟩) n cap) n (seF c) ∧ Stb klt i er E G ∧ Srt klt i er G ∧ Below w.heap.size w w7) := ⟨Own.later HI.out.1 h5, h2, Own.later HI.out.2.2.1 h5, h3, h4, HI.out.2.2.2.2.2.2.1.trans (h5.mono HI.out.2.2.2.2.2.2.1.size)⟩; clear h2 h3 h4 h5))
        all_goals (
          have p3 : i + (er - i) ≤ maxLen := by have := HQ.out; unfold maxLen; omega
          have p4 : (i + (er - i)) * 48 ≤ 140737488355328 := by have := HQ.out; omega
          go_wp2_with (at_builtin; refine wpList_append_own_at _ rfl _ _ 23 rfl w.heap.size 51 iE _ 6 48 Try.underlying23 hE1 hE2 hE3 hE4 rfl (by decide) _ i (cellsF (seF E) (i * 6)) rfl H7.out.1 ⟨g7, 0, none⟩ (er - i) c7 (cellsF (seF (fun k => G (i + k))) ((er - i) * 6)) rfl (cellsF_len _ _) (own_new H7.out.2.1) (seF_ones _ _) p3 p4 H7.out.2.2.2.2.2.size ?_; intro v' w8 hown8 hgrow8 _ hnb8)
          obtain ⟨z1, z2, z3, z4, z5, z6⟩ := H7.out
          obtain ⟨y1, y2, y3, y4, y5, y6, y7, y8, y9, y10⟩ := HI.out
          obtain ⟨x1, x2, x3, x4, x5, x6, x7, x8⟩ := HQ.out
          have hsame : ∀ t, t < i → G t = E t := fun t ht => z4.same (by omega)
          have hg7 := (Own.lt z3 g rfl).2
          refine ⟨⟨er, G, rfl, ?_, by omega, ?_, fun k hk => ?_, Own.far z3 (fun k hk => ?_), y4.trans (z4.widen (Nat.zero_le _) (by omega)), fun t ht => ?_, fun a ha1 ha2 => ?_, z6.grown hgrow8 z6.size (fun r' e => (Own.lt z1 r' e).1)⟩, hmi⟩
          · rw [← x7]
            exact Nat.dvd_add y8 (Nat.dvd_refl _)
          · rw [se_cat E G i (er - i) hsame, show i + (er - i) = min er n by omega] at hown8
            exact hown8
          · rcases hnb8 with h9 | h9
            · exact y2 k (h9.symm.trans hk)
            · rw [h9] at hk
              injection hk with hk
              omega
          · have hk' : k = g := by simpa [Value.ownBlock] using hk.symm
            rw [hk']
            exact hgrow8.block g hg7 (fun e => y2 g e.symm rfl)
          · rw [z4.same (by omega)]
            exact y5 t (by omega)
          · by_cases e : a < i
            · have h8 := dvd_next ha1 y8 e
              exact (y6 a ha1 e).congr fun t t1 t2 => hsame t (by omega)
            · have h8 : a = i := by
                by_cases e2 : a = i
                · exact e2
                · have := dvd_next y8 ha1 (by omega)
                  omega
              rw [h8, x7, x8]
              exact z5)
      by_cases hc2 : i + sz < n
      · obtain ⟨q1, q2, q3, q4, q5, q6, q7, q8, q9⟩ := HM.out
        have g1 : mid = mr := by omega
        have g2 : en = n := by omega
        clear q1 q2
        subst mid
        subst en
        have dm : decide ((n : Int) < (mr : Int)) = false := by simp; omega
        have dmn : decide (n < mr) = false := by simp; omega
        have de : decide ((n : Int) < (er : Int)) = true := by simp; omega
        have den : decide (n < er) = true := by simp; omega
        have t1 : (i : Int) ≤ (mr : Int) := by omega
        have t2 : (mr : Int) ≤ (cap : Int) := by omega
        have t3 : (mr : Int) ≤ (n : Int) := by omega
        have t4 : (n : Int) ≤ (cap : Int) := by omega
        have t5 : (0 : Int) ≤ (mr : Int) := by omega
        have t6 : i ≤ mr := by omega
        have t7 : mr ≤ n := by omega
        have u1 : ¬ cap = i := by omega
        have HQ : Hid (i < mr ∧ mr ≤ n ∧ n ≤ n ∧ n ≤ cap ∧ i < n ∧ i + sz = mr ∧ i + s2 = er ∧ min er n = n) := ⟨by omega, by omega, by omega, by omega, by omega, q8, q9, by omega⟩
        have u2 : ¬ cap = mr := by omega
        clear q3 q4 q5 q6 q7 q8 q9
        have HR9 : ∀ ca cb, Hid (Calls Try.prog 21 #[.slice (some ⟨g, i * 6, none⟩) (mr - i) ca, .slice (some ⟨g, mr * 6, none⟩) (n - mr) cb] wr.drew fun e w7 => ∃ v G, e = .returned v ∧ Own w7 wr.drew.heap.size 51 6 v (n - i) (seF (fun k => G (i + k))) ∧ Stb klt i n E G ∧ Srt klt i n G ∧ Below wr.heap.size wr w7) := fun ca cb => by
          have h9 := HJ wr.drew (some ⟨g, i * 6, none⟩) (some ⟨g, mr * 6, none⟩) ca cb (Below.drew (Below.refl _ wr)) rfl (.inl rfl)
          skip
          exact h9
        go_upto_region 15 with fail
        go_region_held3 (fun w' => w'.cell? ⟨g, 0, none⟩ = some (.int .u64 (c 0).t)) (first | exact k0 | exact KP | go_keep) ((go_at_call 21; (with_reducible refine ((HR9 _ _).out).mono ?_); rintro e w7 ⟨v7, G, rfl, h2, h3, h4, h5⟩; have KP : w7.cell? ⟨g, 0, none⟩ = some (.int .u64 (c 0).t) := (cell_below (a := ⟨g, 0, none⟩) h5 (Own.lt HI.out.2.2.1 g rfl).2).trans k0; obtain ⟨g7, c7, hv7, hg7⟩ : ∃ g7 c7, v7 = .slice (some ⟨g7, 0, none⟩) (n - i) c7 ∧ g7 < w7.heap.size := own_some h2 (by have := HQ.out; omega); subst hv7; have H7 : Hid (Own w7 w.heap.size 51 6 u5 i (seF E) ∧ Own w7 wr.drew.heap.size 51 6 (.slice (some ⟨g7, 0, none⟩) (n - i) c7) (n - i) (seF (fun k => G (i + k))) ∧ Own w7 w.heap.size 51 6 (.slice (some ⟨g, 0, none⟩) n cap) n (seF c) ∧ Stb klt i n E G ∧ Srt klt i n G ∧ Below w.heap.size w w7) := ⟨Own.later HI.out.1 h5, h2, Own.later HI.out.2.2.1 h5, h3, h4, HI.out.2.2.2.2.2.2.1.trans (h5.mono HI.out.2.2.2.2.2.2.1.size)⟩; clear h2 h3 h4 h5))
        all_goals (
          have p3 : i + (n - i) ≤ maxLen := by have := HQ.out; unfold maxLen; omega
          have p4 : (i + (n - i)) * 48 ≤ 140737488355328 := by have := HQ.out; omega
          go_wp2_with (at_builtin; refine wpList_append_own_at _ rfl _ _ 23 rfl w.heap.size 51 iE _ 6 48 Try.underlying23 hE1 hE2 hE3 hE4 rfl (by decide) _ i (cellsF (seF E) (i * 6)) rfl H7.out.1 ⟨g7, 0, none⟩ (n - i) c7 (cellsF (seF (fun k => G (i + k))) ((n - i) * 6)) rfl (cellsF_len _ _) (own_new H7.out.2.1) (seF_ones _ _) p3 p4 H7.out.2.2.2.2.2.size ?_; intro v' w8 hown8 hgrow8 _ hnb8)
          obtain ⟨z1, z2, z3, z4, z5, z6⟩ := H7.out
          obtain ⟨y1, y2, y3, y4, y5, y6, y7, y8, y9, y10⟩ := HI.out
          obtain ⟨x1, x2, x3, x4, x5, x6, x7, x8⟩ := HQ.out
          have hsame : ∀ t, t < i → G t = E t := fun t ht => z4.same (by omega)
          have hg7 := (Own.lt z3 g rfl).2
          refine ⟨⟨er, G, rfl, ?_, by omega, ?_, fun k hk => ?_, Own.far z3 (fun k hk => ?_), y4.trans (z4.widen (Nat.zero_le _) (by omega)), fun t ht => ?_, fun a ha1 ha2 => ?_, z6.grown hgrow8 z6.size (fun r' e => (Own.lt z1 r' e).1)⟩, hmi⟩
          · rw [← x7]
            exact Nat.dvd_add y8 (Nat.dvd_refl _)
          · rw [se_cat E G i (n - i) hsame, show i + (n - i) = min er n by omega] at hown8
            exact hown8
          · rcases hnb8 with h9 | h9
            · exact y2 k (h9.symm.trans hk)
            · rw [h9] at hk
              injection hk with hk
              omega
          · have hk' : k = g := by simpa [Value.ownBlock] using hk.symm
            rw [hk']
            exact hgrow8.block g hg7 (fun e => y2 g e.symm rfl)
          · rw [z4.same (by omega)]
            exact y5 t (by omega)
          · by_cases e : a < i
            · have h8 := dvd_next ha1 y8 e
              exact (y6 a ha1 e).congr fun t t1 t2 => hsame t (by omega)
            · have h8 : a = i := by
                by_cases e2 : a = i
                · exact e2
                · have := dvd_next y8 ha1 (by omega)
                  omega
              rw [h8, x7, x8]
              exact z5)
      by_cases hc3 : i + sz = n
      · obtain ⟨q1, q2, q3, q4, q5, q6, q7, q8, q9⟩ := HM.out
        have g1 : mid = n := by omega
        have g2 : en = n := by omega
        have g3 : mr = n := by omega
        clear q1 q2
        subst mid
        subst en
        clear q8
        subst mr
        have q8 : i + sz = n := hc3
        clear hc3
        have dm : decide ((n : Int) < (n : Int)) = false := by simp
        have de : decide ((n : Int) < (er : Int)) = true := by simp; omega
        have den : decide (n < er) = true := by simp; omega
        have t1 : (i : Int) ≤ (n : Int) := by omega
        have t2 : (n : Int) ≤ (cap : Int) := by omega
        have t3 : (n : Int) ≤ (n : Int) := by omega
        have t4 : (n : Int) ≤ (cap : Int) := by omega
        have t5 : (0 : Int) ≤ (n : Int) := by omega
        have t6 : i ≤ n := by omega
        have t7 : n ≤ n := by omega
        have u1 : ¬ cap = i := by omega
        have HQ : Hid (i < n ∧ n ≤ n ∧ n ≤ n ∧ n ≤ cap ∧ i < n ∧ i + sz = n ∧ i + s2 = er ∧ min er n = n) := ⟨by omega, by omega, by omega, by omega, by omega, q8, q9, by omega⟩
        clear q3 q4 q5 q6 q7 q8 q9
        by_cases hcm : cap = n
        · subst cap
          have HR9 : ∀ ca cb, Hid (Calls Try.prog 21 #[.slice (some ⟨g, i * 6, none⟩) (n - i) ca, .slice (some ⟨g, 0, none⟩) 0 cb] wr.drew fun e w7 => ∃ v G, e = .returned v ∧ Own w7 wr.drew.heap.size 51 6 v (n - i) (seF (fun k => G (i + k))) ∧ Stb klt i n E G ∧ Srt klt i n G ∧ Below wr.heap.size wr w7) := fun ca cb => by
            have h9 := HJ wr.drew (some ⟨g, i * 6, none⟩) (some ⟨g, 0, none⟩) ca cb (Below.drew (Below.refl _ wr)) rfl (.inr rfl)
            rw [Nat.sub_self] at h9
            exact h9
          go_upto_region 15 with fail
          go_region_held3 (fun w' => w'.cell? ⟨g, 0, none⟩ = some (.int .u64 (c 0).t)) (first | exact k0 | exact KP | go_keep) ((go_at_call 21; (with_reducible refine ((HR9 _ _).out).mono ?_); rintro e w7 ⟨v7, G, rfl, h2, h3, h4, h5⟩; have KP : w7.cell? ⟨g, 0, none⟩ = some (.int .u64 (c 0).t) := (cell_below (a := ⟨g, 0, none⟩) h5 (Own.lt HI.out.2.2.1 g rfl).2).trans k0; obtain ⟨g7, c7, hv7, hg7⟩ : ∃ g7 c7, v7 = .slice (some ⟨g7, 0, none⟩) (n - i) c7 ∧ g7 < w7.heap.size := own_some h2 (by have := HQ.out; omega); subst hv7; have H7 : Hid (Own w7 w.heap.size 51 6 u5 i (seF E) ∧ Own w7 wr.drew.heap.size 51 6 (.slice (some ⟨g7, 0, none⟩) (n - i) c7) (n - i) (seF (fun k => G (i + k))) ∧ Own w7 w.heap.size 51 6 (.slice (some ⟨g, 0, none⟩) n n) n (seF c) ∧ Stb klt i n E G ∧ Srt klt i n G ∧ Below w.heap.size w w7) := ⟨Own.later HI.out.1 h5, h2, Own.later HI.out.2.2.1 h5, h3, h4, HI.out.2.2.2.2.2.2.1.trans (h5.mono HI.out.2.2.2.2.2.2.1.size)⟩; clear h2 h3 h4 h5))
          all_goals (
            have p3 : i + (n - i) ≤ maxLen := by have := HQ.out; unfold maxLen; omega
            have p4 : (i + (n - i)) * 48 ≤ 140737488355328 := by have := HQ.out; omega
            go_wp2_with (at_builtin; refine wpList_append_own_at _ rfl _ _ 23 rfl w.heap.size 51 iE _ 6 48 Try.underlying23 hE1 hE2 hE3 hE4 rfl (by decide) _ i (cellsF (seF E) (i * 6)) rfl H7.out.1 ⟨g7, 0, none⟩ (n - i) c7 (cellsF (seF (fun k => G (i + k))) ((n - i) * 6)) rfl (cellsF_len _ _) (own_new H7.out.2.1) (seF_ones _ _) p3 p4 H7.out.2.2.2.2.2.size ?_; intro v' w8 hown8 hgrow8 _ hnb8)
            obtain ⟨z1, z2, z3, z4, z5, z6⟩ := H7.out
            obtain ⟨y1, y2, y3, y4, y5, y6, y7, y8, y9, y10⟩ := HI.out
            obtain ⟨x1, x2, x3, x4, x5, x6, x7, x8⟩ := HQ.out
            have hsame : ∀ t, t < i → G t = E t := fun t ht => z4.same (by omega)
            have hg7 := (Own.lt z3 g rfl).2
            refine ⟨⟨er, G, rfl, ?_, by omega, ?_, fun k hk => ?_, Own.far z3 (fun k hk => ?_), y4.trans (z4.widen (Nat.zero_le _) (by omega)), fun t ht => ?_, fun a ha1 ha2 => ?_, z6.grown hgrow8 z6.size (fun r' e => (Own.lt z1 r' e).1)⟩, hmi⟩
            · rw [← x7]
              exact Nat.dvd_add y8 (Nat.dvd_refl _)
            · rw [se_cat E G i (n - i) hsame, show i + (n - i) = min er n by omega] at hown8
              exact hown8
            · rcases hnb8 with h9 | h9
              · exact y2 k (h9.symm.trans hk)
              · rw [h9] at hk
                injection hk with hk
                omega
            · have hk' : k = g := by simpa [Value.ownBlock] using hk.symm
              rw [hk']
              exact hgrow8.block g hg7 (fun e => y2 g e.symm rfl)
            · rw [z4.same (by omega)]
              exact y5 t (by omega)
            · by_cases e : a < i
              · have h8 := dvd_next ha1 y8 e
                exact (y6 a ha1 e).congr fun t t1 t2 => hsame t (by omega)
              · have h8 : a = i := by
                  by_cases e2 : a = i
                  · exact e2
                  · have := dvd_next y8 ha1 (by omega)
                    omega
                rw [h8, x7, x8]
                exact z5)
        · skip
          have HR9 : ∀ ca cb, Hid (Calls Try.prog 21 #[.slice (some ⟨g, i * 6, none⟩) (n - i) ca, .slice (some ⟨g, n * 6, none⟩) 0 cb] wr.drew fun e w7 => ∃ v G, e = .returned v ∧ Own w7 wr.drew.heap.size 51 6 v (n - i) (seF (fun k => G (i + k))) ∧ Stb klt i n E G ∧ Srt klt i n G ∧ Below wr.heap.size wr w7) := fun ca cb => by
            have h9 := HJ wr.drew (some ⟨g, i * 6, none⟩) (some ⟨g, n * 6, none⟩) ca cb (Below.drew (Below.refl _ wr)) rfl (.inl rfl)
            rw [Nat.sub_self] at h9
            exact h9
          go_upto_region 15 with fail
          go_region_held3 (fun w' => w'.cell? ⟨g, 0, none⟩ = some (.int .u64 (c 0).t)) (first | exact k0 | exact KP | go_keep) ((go_at_call 21; (with_reducible refine ((HR9 _ _).out).mono ?_); rintro e w7 ⟨v7, G, rfl, h2, h3, h4, h5⟩; have KP : w7.cell? ⟨g, 0, none⟩ = some (.int .u64 (c 0).t) := (cell_below (a := ⟨g, 0, none⟩) h5 (Own.lt HI.out.2.2.1 g rfl).2).trans k0; obtain ⟨g7, c7, hv7, hg7⟩ : ∃ g7 c7, v7 = .slice (some ⟨g7, 0, none⟩) (n - i) c7 ∧ g7 < w7.heap.size := own_some h2 (by have := HQ.out; omega); subst hv7; have H7 : Hid (Own w7 w.heap.size 51 6 u5 i (seF E) ∧ Own w7 wr.drew.heap.size 51 6 (.slice (some ⟨g7, 0, none⟩) (n - i) c7) (n - i) (seF (fun k => G (i + k))) ∧ Own w7 w.heap.size 51 6 (.slice (some ⟨g, 0, none⟩) n cap) n (seF c) ∧ Stb klt i n E G ∧ Srt klt i n G ∧ Below w.heap.size w w7) := ⟨Own.later HI.out.1 h5, h2, Own.later HI.out.2.2.1 h5, h3, h4, HI.out.2.2.2.2.2.2.1.trans (h5.mono HI.out.2.2.2.2.2.2.1.size)⟩; clear h2 h3 h4 h5))
          all_goals (
            have p3 : i + (n - i) ≤ maxLen := by have := HQ.out; unfold maxLen; omega
            have p4 : (i + (n - i)) * 48 ≤ 140737488355328 := by have := HQ.out; omega
            go_wp2_with (at_builtin; refine wpList_append_own_at _ rfl _ _ 23 rfl w.heap.size 51 iE _ 6 48 Try.underlying23 hE1 hE2 hE3 hE4 rfl (by decide) _ i (cellsF (seF E) (i * 6)) rfl H7.out.1 ⟨g7, 0, none⟩ (n - i) c7 (cellsF (seF (fun k => G (i + k))) ((n - i) * 6)) rfl (cellsF_len _ _) (own_new H7.out.2.1) (seF_ones _ _) p3 p4 H7.out.2.2.2.2.2.size ?_; intro v' w8 hown8 hgrow8 _ hnb8)
            obtain ⟨z1, z2, z3, z4, z5, z6⟩ := H7.out
            obtain ⟨y1, y2, y3, y4, y5, y6, y7, y8, y9, y10⟩ := HI.out
            obtain ⟨x1, x2, x3, x4, x5, x6, x7, x8⟩ := HQ.out
            have hsame : ∀ t, t < i → G t = E t := fun t ht => z4.same (by omega)
            have hg7 := (Own.lt z3 g rfl).2
            refine ⟨⟨er, G, rfl, ?_, by omega, ?_, fun k hk => ?_, Own.far z3 (fun k hk => ?_), y4.trans (z4.widen (Nat.zero_le _) (by omega)), fun t ht => ?_, fun a ha1 ha2 => ?_, z6.grown hgrow8 z6.size (fun r' e => (Own.lt z1 r' e).1)⟩, hmi⟩
            · rw [← x7]
              exact Nat.dvd_add y8 (Nat.dvd_refl _)
            · rw [se_cat E G i (n - i) hsame, show i + (n - i) = min er n by omega] at hown8
              exact hown8
            · rcases hnb8 with h9 | h9
              · exact y2 k (h9.symm.trans hk)
              · rw [h9] at hk
                injection hk with hk
                omega
            · have hk' : k = g := by simpa [Value.ownBlock] using hk.symm
              rw [hk']
              exact hgrow8.block g hg7 (fun e => y2 g e.symm rfl)
            · rw [z4.same (by omega)]
              exact y5 t (by omega)
            · by_cases e : a < i
              · have h8 := dvd_next ha1 y8 e
                exact (y6 a ha1 e).congr fun t t1 t2 => hsame t (by omega)
              · have h8 : a = i := by
                  by_cases e2 : a = i
                  · exact e2
                  · have := dvd_next y8 ha1 (by omega)
                    omega
                rw [h8, x7, x8]
                exact z5)
      · obtain ⟨q1, q2, q3, q4, q5, q6, q7, q8, q9⟩ := HM.out
        have g1 : mid = n := by omega
        have g2 : en = n := by omega
        clear q1 q2
        subst mid
        subst en
        have dm : decide ((n : Int) < (mr : Int)) = true := by simp; omega
        have dmn : decide (n < mr) = true := by simp; omega
        have de : decide ((n : Int) < (er : Int)) = true := by simp; omega
        have den : decide (n < er) = true := by simp; omega
        have t1 : (i : Int) ≤ (n : Int) := by omega
        have t2 : (n : Int) ≤ (cap : Int) := by omega
        have t3 : (n : Int) ≤ (n : Int) := by omega
        have t4 : (n : Int) ≤ (cap : Int) := by omega
        have t5 : (0 : Int) ≤ (n : Int) := by omega
        have t6 : i ≤ n := by omega
        have t7 : n ≤ n := by omega
        have u1 : ¬ cap = i := by omega
        have HQ : Hid (i < n ∧ n ≤ n ∧ n ≤ n ∧ n ≤ cap ∧ i < n ∧ i + sz = mr ∧ i + s2 = er ∧ min er n = n) := ⟨by omega, by omega, by omega, by omega, by omega, q8, q9, by omega⟩
        clear q3 q4 q5 q6 q7 q8 q9
        by_cases hcm : cap = n
        · subst cap
          have HR9 : ∀ ca cb, Hid (Calls Try.prog 21 #[.slice (some ⟨g, i * 6, none⟩) (n - i) ca, .slice (some ⟨g, 0, none⟩) 0 cb] wr.drew fun e w7 => ∃ v G, e = .returned v ∧ Own w7 wr.drew.heap.size 51 6 v (n - i) (seF (fun k => G (i + k))) ∧ Stb klt i n E G ∧ Srt klt i n G ∧ Below wr.heap.size wr w7) := fun ca cb => by
            have h9 := HJ wr.drew (some ⟨g, i * 6, none⟩) (some ⟨g, 0, none⟩) ca cb (Below.drew (Below.refl _ wr)) rfl (.inr rfl)
            rw [Nat.sub_self] at h9
            exact h9
          go_upto_region 15 with fail
          go_region_held3 (fun w' => w'.cell? ⟨g, 0, none⟩ = some (.int .u64 (c 0).t)) (first | exact k0 | exact KP | go_keep) ((go_at_call 21; (with_reducible refine ((HR9 _ _).out).mono ?_); rintro e w7 ⟨v7, G, rfl, h2, h3, h4, h5⟩; have KP : w7.cell? ⟨g, 0, none⟩ = some (.int .u64 (c 0).t) := (cell_below (a := ⟨g, 0, none⟩) h5 (Own.lt HI.out.2.2.1 g rfl).2).trans k0; obtain ⟨g7, c7, hv7, hg7⟩ : ∃ g7 c7, v7 = .slice (some ⟨g7, 0, none⟩) (n - i) c7 ∧ g7 < w7.heap.size := own_some h2 (by have := HQ.out; omega); subst hv7; have H7 : Hid (Own w7 w.heap.size 51 6 u5 i (seF E) ∧ Own w7 wr.drew.heap.size 51 6 (.slice (some ⟨g7, 0, none⟩) (n - i) c7) (n - i) (seF (fun k => G (i + k))) ∧ Own w7 w.heap.size 51 6 (.slice (some ⟨g, 0, none⟩) n n) n (seF c) ∧ Stb klt i n E G ∧ Srt klt i n G ∧ Below w.heap.size w w7) := ⟨Own.later HI.out.1 h5, h2, Own.later HI.out.2.2.1 h5, h3, h4, HI.out.2.2.2.2.2.2.1.trans (h5.mono HI.out.2.2.2.2.2.2.1.size)⟩; clear h2 h3 h4 h5))
          all_goals (
            have p3 : i + (n - i) ≤ maxLen := by have := HQ.out; unfold maxLen; omega
            have p4 : (i + (n - i)) * 48 ≤ 140737488355328 := by have := HQ.out; omega
            go_wp2_with (at_builtin; refine wpList_append_own_at _ rfl _ _ 23 rfl w.heap.size 51 iE _ 6 48 Try.underlying23 hE1 hE2 hE3 hE4 rfl (by decide) _ i (cellsF (seF E) (i * 6)) rfl H7.out.1 ⟨g7, 0, none⟩ (n - i) c7 (cellsF (seF (fun k => G (i + k))) ((n - i) * 6)) rfl (cellsF_len _ _) (own_new H7.out.2.1) (seF_ones _ _) p3 p4 H7.out.2.2.2.2.2.size ?_; intro v' w8 hown8 hgrow8 _ hnb8)
            obtain ⟨z1, z2, z3, z4, z5, z6⟩ := H7.out
            obtain ⟨y1, y2, y3, y4, y5, y6, y7, y8, y9, y10⟩ := HI.out
            obtain ⟨x1, x2, x3, x4, x5, x6, x7, x8⟩ := HQ.out
            have hsame : ∀ t, t < i → G t = E t := fun t ht => z4.same (by omega)
            have hg7 := (Own.lt z3 g rfl).2
            refine ⟨⟨er, G, rfl, ?_, by omega, ?_, fun k hk => ?_, Own.far z3 (fun k hk => ?_), y4.trans (z4.widen (Nat.zero_le _) (by omega)), fun t ht => ?_, fun a ha1 ha2 => ?_, z6.grown hgrow8 z6.size (fun r' e => (Own.lt z1 r' e).1)⟩, hmi⟩
            · rw [← x7]
              exact Nat.dvd_add y8 (Nat.dvd_refl _)
            · rw [se_cat E G i (n - i) hsame, show i + (n - i) = min er n by omega] at hown8
              exact hown8
            · rcases hnb8 with h9 | h9
              · exact y2 k (h9.symm.trans hk)
              · rw [h9] at hk
                injection hk with hk
                omega
            · have hk' : k = g := by simpa [Value.ownBlock] using hk.symm
              rw [hk']
              exact hgrow8.block g hg7 (fun e => y2 g e.symm rfl)
            · rw [z4.same (by omega)]
              exact y5 t (by omega)
            · by_cases e : a < i
              · have h8 := dvd_next ha1 y8 e
                exact (y6 a ha1 e).congr fun t t1 t2 => hsame t (by omega)
              · have h8 : a = i := by
                  by_cases e2 : a = i
                  · exact e2
                  · have := dvd_next y8 ha1 (by omega)
                    omega
                rw [h8, x7, x8]
                exact z5)
        · skip
          have HR9 : ∀ ca cb, Hid (Calls Try.prog 21 #[.slice (some ⟨g, i * 6, none⟩) (n - i) ca, .slice (some ⟨g, n * 6, none⟩) 0 cb] wr.drew fun e w7 => ∃ v G, e = .returned v ∧ Own w7 wr.drew.heap.size 51 6 v (n - i) (seF (fun k => G (i + k))) ∧ Stb klt i n E G ∧ Srt klt i n G ∧ Below wr.heap.size wr w7) := fun ca cb => by
            have h9 := HJ wr.drew (some ⟨g, i * 6, none⟩) (some ⟨g, n * 6, none⟩) ca cb (Below.drew (Below.refl _ wr)) rfl (.inl rfl)
            rw [Nat.sub_self] at h9
            exact h9
          go_upto_region 15 with fail
          go_region_held3 (fun w' => w'.cell? ⟨g, 0, none⟩ = some (.int .u64 (c 0).t)) (first | exact k0 | exact KP | go_keep) ((go_at_call 21; (with_reducible refine ((HR9 _ _).out).mono ?_); rintro e w7 ⟨v7, G, rfl, h2, h3, h4, h5⟩; have KP : w7.cell? ⟨g, 0, none⟩ = some (.int .u64 (c 0).t) := (cell_below (a := ⟨g, 0, none⟩) h5 (Own.lt HI.out.2.2.1 g rfl).2).trans k0; obtain ⟨g7, c7, hv7, hg7⟩ : ∃ g7 c7, v7 = .slice (some ⟨g7, 0, none⟩) (n - i) c7 ∧ g7 < w7.heap.size := own_some h2 (by have := HQ.out; omega); subst hv7; have H7 : Hid (Own w7 w.heap.size 51 6 u5 i (seF E) ∧ Own w7 wr.drew.heap.size 51 6 (.slice (some ⟨g7, 0, none⟩) (n - i) c7) (n - i) (seF (fun k => G (i + k))) ∧ Own w7 w.heap.size 51 6 (.slice (some ⟨g, 0, none⟩) n cap) n (seF c) ∧ Stb klt i n E G ∧ Srt klt i n G ∧ Below w.heap.size w w7) := ⟨Own.later HI.out.1 h5, h2, Own.later HI.out.2.2.1 h5, h3, h4, HI.out.2.2.2.2.2.2.1.trans (h5.mono HI.out.2.2.2.2.2.2.1.size)⟩; clear h2 h3 h4 h5))
          all_goals (
            have p3 : i + (n - i) ≤ maxLen := by have := HQ.out; unfold maxLen; omega
            have p4 : (i + (n - i)) * 48 ≤ 140737488355328 := by have := HQ.out; omega
            go_wp2_with (at_builtin; refine wpList_append_own_at _ rfl _ _ 23 rfl w.heap.size 51 iE _ 6 48 Try.underlying23 hE1 hE2 hE3 hE4 rfl (by decide) _ i (cellsF (seF E) (i * 6)) rfl H7.out.1 ⟨g7, 0, none⟩ (n - i) c7 (cellsF (seF (fun k => G (i + k))) ((n - i) * 6)) rfl (cellsF_len _ _) (own_new H7.out.2.1) (seF_ones _ _) p3 p4 H7.out.2.2.2.2.2.size ?_; intro v' w8 hown8 hgrow8 _ hnb8)
            obtain ⟨z1, z2, z3, z4, z5, z6⟩ := H7.out
            obtain ⟨y1, y2, y3, y4, y5, y6, y7, y8, y9, y10⟩ := HI.out
            obtain ⟨x1, x2, x3, x4, x5, x6, x7, x8⟩ := HQ.out
            have hsame : ∀ t, t < i → G t = E t := fun t ht => z4.same (by omega)
            have hg7 := (Own.lt z3 g rfl).2
            refine ⟨⟨er, G, rfl, ?_, by omega, ?_, fun k hk => ?_, Own.far z3 (fun k hk => ?_), y4.trans (z4.widen (Nat.zero_le _) (by omega)), fun t ht => ?_, fun a ha1 ha2 => ?_, z6.grown hgrow8 z6.size (fun r' e => (Own.lt z1 r' e).1)⟩, hmi⟩
            · rw [← x7]
              exact Nat.dvd_add y8 (Nat.dvd_refl _)
            · rw [se_cat E G i (n - i) hsame, show i + (n - i) = min er n by omega] at hown8
              exact hown8
            · rcases hnb8 with h9 | h9
              · exact y2 k (h9.symm.trans hk)
              · rw [h9] at hk
                injection hk with hk
                omega
            · have hk' : k = g := by simpa [Value.ownBlock] using hk.symm
              rw [hk']
              exact hgrow8.block g hg7 (fun e => y2 g e.symm rfl)
            · rw [z4.same (by omega)]
              exact y5 t (by omega)
            · by_cases e : a < i
              · have h8 := dvd_next ha1 y8 e
                exact (y6 a ha1 e).congr fun t t1 t2 => hsame t (by omega)
              · have h8 : a = i := by
                  by_cases e2 : a = i
                  · exact e2
                  · have := dvd_next y8 ha1 (by omega)
                    omega
                rw [h8, x7, x8]
                exact z5)
end Go.Proofs.Ytjfefjlajgpkaaa
