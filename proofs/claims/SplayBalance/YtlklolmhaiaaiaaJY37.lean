import Derived.Test.YtlklolmhaiaaiaaJY36
namespace Go.Proofs.Ytlklolmhaiaaiaa
open Go.ChangeShapes Go.WideShapes Go.ChangeAt Go.RowKit
set_option linter.unusedVariables false
set_option linter.unusedSimpArgs false

def insX (X : Nat → Ev) (i : Nat) (e : Ev) (k : Nat) : Ev := if k < i then X k else if k = i then e else X (k - 1)
def delX (X : Nat → Ev) (i : Nat) (k : Nat) : Ev := if k < i then X k else X (k + 1)
theorem nilOwns (W : World) (base : Nat) : W.ownsRow base 64 6 (.slice none 0 0) 0 (cellsF (fun j => evC ((fun _ => ev0) (j / 6)) (j % 6)) (0 * 6)) := ⟨rfl, .inl ⟨rfl, rfl⟩⟩
theorem EvRow.later {W W' : World} {base : Nat} {v : Value} {m : Nat} {Y : Nat → Ev} (h : EvRow W base v m Y) (hb : Below W.heap.size W W') : EvRow W' base v m Y := Own.later h hb
theorem EvRow.congr {W : World} {base : Nat} {v : Value} {m m' : Nat} {Y Y' : Nat → Ev} (h : EvRow W base v m Y) (hm : m = m') (he : ∀ i, i < m → Y i = Y' i) : EvRow W base v m' Y' := by
  subst hm
  exact Own.congr h fun j hj => by rw [he (j / 6) (by omega)]
theorem EvRow.some {W : World} {base : Nat} {v : Value} {m : Nat} {Y : Nat → Ev} (h : EvRow W base v m Y) (hm : 0 < m) : ∃ b c, v = .slice (some ⟨b, 0, none⟩) m c := by
  rcases Own.form h with ⟨_, h2⟩ | ⟨b, c, h2, _⟩
  · omega
  · exact ⟨b, c, h2⟩
set_option maxRecDepth 100000 in
set_option maxHeartbeats 4000000 in
theorem withO (b o n c i : Nat) (X : Nat → Ev) (e : Ev) (W : World) (h : EvO W b o n X) (hi : i ≤ n) (hc : n ≤ c) (hn : n ≤ 8192) :
    Calls Try.prog 31 #[.slice (some ⟨b, o, none⟩) n c, .int .i64 (i : Int), evV e] W fun r W' => ∃ b' c', r = .returned (.slice (some ⟨b', 0, none⟩) (n + 1) c') ∧ EvO W' b' 0 (n + 1) (insX X i e) ∧ W.heap.size ≤ b' ∧ n + 1 ≤ c' ∧ Below W.heap.size W W' := by
  obtain ⟨i6, hi6, ha6, hb6, hc6⟩ := qinfo infoEV
  obtain ⟨W1, hW1⟩ : ∃ W1, W.alloc (.cells #[.int .u64 e.t, .int .i64 e.s, .int .u64 e.q, .int .i64 e.d, .int .i64 e.k, .int .i64 e.v] 64) = W1 := ⟨_, rfl⟩
  have hb1 : Below W.heap.size W W1 := by rw [← hW1]; exact (Below.refl _ W).alloc (Nat.le_refl _) _
  have hz1 : W1.heap.size = W.heap.size + 1 := by rw [← hW1, World.size_alloc]
  have he1 : W1.heap[W.heap.size]? = some (.cells #[.int .u64 e.t, .int .i64 e.s, .int .u64 e.q, .int .i64 e.d, .int .i64 e.k, .int .i64 e.v] 64 (0, 0)) := by rw [← hW1]; exact World.alloc_heap_new W _
  have HW : Hid (W.alloc (.cells #[.int .u64 e.t, .int .i64 e.s, .int .u64 e.q, .int .i64 e.d, .int .i64 e.k, .int .i64 e.v] 64) = W1) := hW1
  have h1 := h.later hb1
  have hp1 := h1.part 0 i (by omega)
  have H0 : Hid (EvO W1 b o n X ∧ Below W.heap.size W W1 ∧ W1.heap.size = W.heap.size + 1 ∧ W1.heap[W.heap.size]? = some (.cells #[.int .u64 e.t, .int .i64 e.s, .int .u64 e.q, .int .i64 e.d, .int .i64 e.k, .int .i64 e.v] 64 (0, 0)) ∧ i ≤ n ∧ n ≤ c ∧ n ≤ 8192) := ⟨h1, hb1, hz1, he1, hi, hc, hn⟩
  have HP1 : Hid (EvO W1 b o i X) := by have := hp1; simp only [Nat.zero_mul, Nat.add_zero, Nat.zero_add] at this; exact this
  have s0 : (0 : Int) ≤ (i : Int) := by omega
  have s1 : (i : Int) ≤ (c : Int) := by omega
  have s2 : (i : Int) ≤ (n : Int) := by omega
  have s3 : (n : Int) ≤ (c : Int) := by omega
  have q1 : 0 + i ≤ maxLen := by unfold maxLen; omega
  have q2 : (0 + i) * 48 ≤ 140737488355328 := by omega
  clear hW1 hb1 hz1 he1 h h1 hp1 hi hc hn
  unfold evV
  go_enter Try.func31, Try.ntmps31
  go_wp2_with (at_builtin; rw [HW.out]; refine wpList_append_own_at _ rfl _ _ 27 rfl W1.heap.size 64 i6 _ 6 48 Try.underlying27 hi6 ha6 hb6 hc6 rfl (by decide) (.slice none 0 0) 0 _ rfl (nilOwns W1 W1.heap.size) ⟨b, o, none⟩ i c (cellsF (fun j => evC (X (j / 6)) (j % 6)) (i * 6)) rfl (cellsF_len _ _) ?h3 ?h4 q1 q2 (Nat.le_refl _) ?_)
  case h3 => exact HP1.out.news
  case h4 => exact evOne X _
  intro v1 w2 hown1 hgr1 hnil1 hat1
  have R1 : EvRow w2 W1.heap.size v1 i X := hown1
  have B2 : Below W1.heap.size W1 w2 := (Below.refl _ W1).grown hgr1 (Nat.le_refl _) (by simp [Value.ownBlock])
  have he2 := (B2.block _ (by have := H0.out.2.2.1; omega)).trans H0.out.2.2.2.1
  obtain ⟨y0, y1, y2, y3, y4, y5⟩ := q6c he2
  have HR1 : Hid (EvRow w2 W1.heap.size v1 i X ∧ Below W1.heap.size W1 w2 ∧ i + 1 ≤ maxLen ∧ (i + 1) * 48 ≤ 140737488355328) := ⟨R1, B2, by have := H0.out; unfold maxLen; omega, by have := H0.out; omega⟩
  clear hown1 hgr1 hnil1 hat1 R1 B2 he2
  have hA2 : Hid (∀ j u, (evL e)[j]? = some u → (w2.alloc (.cells #[.int .u64 e.t, .int .i64 e.s, .int .u64 e.q, .int .i64 e.d, .int .i64 e.k, .int .i64 e.v] 64)).cell? ((⟨w2.heap.size, 0, none⟩ : Addr).add j) = some u) := fun j u hj => cells_new w2 (evL e) 64 j u hj
  have HO2 : Hid ((w2.alloc (.cells #[.int .u64 e.t, .int .i64 e.s, .int .u64 e.q, .int .i64 e.d, .int .i64 e.k, .int .i64 e.v] 64)).ownsRow W1.heap.size 64 6 v1 i (cellsF (fun j => evC (X (j / 6)) (j % 6)) (i * 6))) := Own.later HR1.out.1 ((Below.refl _ w2).alloc (Nat.le_refl _) _)
  have HB2 : Hid (W1.heap.size ≤ (w2.alloc (.cells #[.int .u64 e.t, .int .i64 e.s, .int .u64 e.q, .int .i64 e.d, .int .i64 e.k, .int .i64 e.v] 64)).heap.size) := by
    show _ ≤ (World.alloc w2 _).heap.size
    rw [World.size_alloc]
    have := HR1.out.2.1.size
    omega
  go_wp2_with (at_builtin; refine wpList_append_own_at _ rfl _ _ 27 rfl W1.heap.size 64 i6 _ 6 48 Try.underlying27 hi6 ha6 hb6 hc6 rfl (by decide) v1 i _ rfl HO2.out ⟨w2.heap.size, 0, none⟩ 1 1 (evL e) rfl rfl hA2.out (by simp [evL, Value.oneCell']) HR1.out.2.2.1 HR1.out.2.2.2 HB2.out ?_)
  intro v2 w3 hown2 hgr2 hnil2 hat2
  have R2 : EvRow w3 W1.heap.size v2 (i + 1) (fun k => if k < i then X k else e) := EvRow.app (Z := fun _ => e) hown2
  have B3 : Below W1.heap.size W1 w3 := (HR1.out.2.1.alloc HR1.out.2.1.size _).grown hgr2 HB2.out (fun r hr => (Own.lt HR1.out.1 r hr).1)
  have hE3 := H0.out.1.later B3
  have hP3 : EvO w3 b (o + i * 6) (n - i) (fun k => X (i + k)) := hE3.part i (n - i) (by have := H0.out; omega)
  obtain ⟨m, hm⟩ : ∃ m, n - i = m := ⟨_, rfl⟩
  obtain ⟨k, hk⟩ : ∃ k, c - i = k := ⟨_, rfl⟩
  rw [hm] at hP3
  have HR2 : Hid (EvRow w3 W1.heap.size v2 (i + 1) (fun k => if k < i then X k else e) ∧ Below W1.heap.size W1 w3 ∧ i + 1 + m ≤ maxLen ∧ (i + 1 + m) * 48 ≤ 140737488355328 ∧ EvO w3 b (o + i * 6) m (fun k => X (i + k)) ∧ W1.heap.size ≤ w3.heap.size ∧ n = i + m ∧ c = i + k) := ⟨R2, B3, by have := H0.out; unfold maxLen; omega, by have := H0.out; omega, hP3, B3.size, by have := H0.out; omega, by have := H0.out; omega⟩
  have FIN : Hid (∀ (v' : Value) (w' : World), w'.ownsRow W1.heap.size 64 6 v' (i + 1 + m) (cellsF (fun j => evC (if j / 6 < i then X (j / 6) else e) (j % 6)) ((i + 1) * 6) ++ cellsF (fun j => evC (X (i + j / 6)) (j % 6)) (m * 6)) → w3.grownBy w' v2.ownBlock → ∃ b' c', v' = .slice (some ⟨b', 0, none⟩) (n + 1) c' ∧ EvO w' b' 0 (n + 1) (insX X i e) ∧ W.heap.size ≤ b' ∧ n + 1 ≤ c' ∧ Below W.heap.size W w') := fun v' w' hown hgr => by
    have hin := HR2.out.2.2.2.2.2.2.1
    have R3 : EvRow w' W1.heap.size v' (n + 1) (insX X i e) := EvRow.congr (EvRow.app (Y := fun k => if k < i then X k else e) (Z := fun k => X (i + k)) hown) (by omega) (fun k hk => by
      show (if k < i + 1 then (if k < i then X k else e) else X (i + (k - (i + 1)))) = insX X i e k
      unfold insX
      by_cases h1 : k < i + 1
      · rw [if_pos h1]
        by_cases h2 : k < i
        · rw [if_pos h2, if_pos h2]
        · rw [if_neg h2, if_neg h2, if_pos (by omega)]
      · rw [if_neg h1, if_neg (by omega), if_neg (by omega), show i + (k - (i + 1)) = k - 1 by omega])
    obtain ⟨b', c', rfl⟩ := R3.some (by omega)
    obtain ⟨q1, q2, q3⟩ := R3.evo
    have B4 : Below W1.heap.size W1 w' := HR2.out.2.1.grown hgr HR2.out.2.2.2.2.2.1 (fun r hr => (Own.lt HR2.out.1 r hr).1)
    exact ⟨b', c', rfl, q1, by have := H0.out.2.2.1; omega, q3, H0.out.2.1.trans (B4.mono H0.out.2.1.size)⟩
  clear hown2 hgr2 hnil2 hat2 R2 B3 hE3 hP3 y0 y1 y2 y3 y4 y5
  have h9 := HR2.out.1
  unfold EvRow Own at h9
  by_cases hci : c = i
  · have hm0 : m = 0 := by have h1 := HR2.out.2.2.2.2.2.2; have h2 := H0.out; omega
    have HM0 : Hid (m = 0) := hm0
    clear hm0
    go_wp2_with (at_builtin; refine wpList_append_own_at _ rfl _ _ 27 rfl W1.heap.size 64 i6 _ 6 48 Try.underlying27 hi6 ha6 hb6 hc6 rfl (by decide) v2 (i + 1) _ rfl h9 ⟨b, o, none⟩ m k (cellsF (fun j => evC ((fun k => X (i + k)) (j / 6)) (j % 6)) (m * 6)) ?h1 (cellsF_len _ _) ?h3 ?h4 ?h5 ?h6 ?h7 ?_)
    case h1 => omega
    case h3 => intro j u hj; rw [HM0.out] at hj; simp [cellsF] at hj
    case h4 => exact evOne (fun k => X (i + k)) _
    case h5 => exact HR2.out.2.2.1
    case h6 => exact HR2.out.2.2.2.1
    case h7 => exact HR2.out.2.2.2.2.2.1
    intro v3 w4 hown3 hgr3 hnil3 hat3
    obtain ⟨b', c', hv, r1, r2, r3, r4⟩ := FIN.out v3 w4 hown3 hgr3
    subst hv
    go_wp2_with fail
    go_ret
    exact ⟨b', c', rfl, r1, r2, r3, r4⟩
  · go_wp2_with (at_builtin; refine wpList_append_own_at _ rfl _ _ 27 rfl W1.heap.size 64 i6 _ 6 48 Try.underlying27 hi6 ha6 hb6 hc6 rfl (by decide) v2 (i + 1) _ rfl h9 ⟨b, o + i * 6, none⟩ m k (cellsF (fun j => evC ((fun k => X (i + k)) (j / 6)) (j % 6)) (m * 6)) ?g1 (cellsF_len _ _) ?g3 ?g4 ?g5 ?g6 ?g7 ?_)
    case g3 => intro j u hj; have h8 := HR2.out.2.2.2.2.1.news j u hj; rw [addr_add0] at h8; exact h8
    case g4 => exact evOne (fun k => X (i + k)) _
    case g5 => exact HR2.out.2.2.1
    case g6 => exact HR2.out.2.2.2.1
    case g7 => exact HR2.out.2.2.2.2.2.1
    intro v3 w4 hown3 hgr3 hnil3 hat3
    obtain ⟨b', c', hv, r1, r2, r3, r4⟩ := FIN.out v3 w4 hown3 hgr3
    subst hv
    go_wp2_with fail
    go_ret
    exact ⟨b', c', rfl, r1, r2, r3, r4⟩
set_option maxRecDepth 100000 in
set_option maxHeartbeats 4000000 in
theorem withoutO (b o n c i : Nat) (X : Nat → Ev) (W : World) (h : EvO W b o n X) (hi : i < n) (hc : n ≤ c) (hn : n ≤ 8192) :
    Calls Try.prog 37 #[.slice (some ⟨b, o, none⟩) n c, .int .i64 (i : Int)] W fun r W' => ∃ v, r = .returned v ∧ EvRow W' W.heap.size v (n - 1) (delX X i) ∧ Below W.heap.size W W' := by
  obtain ⟨i6, hi6, ha6, hb6, hc6⟩ := qinfo infoEV
  have HP1 : Hid (EvO W b o i X) := by have := h.part 0 i (by omega); simp only [Nat.zero_mul, Nat.add_zero, Nat.zero_add] at this; exact this
  have s0 : (0 : Int) ≤ (i : Int) := by omega
  have s1 : (i : Int) ≤ (c : Int) := by omega
  obtain ⟨i', hi'⟩ : ∃ i', i + 1 = i' := ⟨_, rfl⟩
  have e1 : IntKind.i64.wrap ((i : Int) + 1) = (i' : Int) := by rw [IntKind.wrap_i64]; omega
  have s2 : (0 : Int) ≤ (i' : Int) := by omega
  have s3 : (i' : Int) ≤ (n : Int) := by omega
  have s4 : (n : Int) ≤ (c : Int) := by omega
  have s5 : (i' : Int) ≤ (c : Int) := by omega
  have q1 : 0 + i ≤ maxLen := by unfold maxLen; omega
  have q2 : (0 + i) * 48 ≤ 140737488355328 := by omega
  have H0 : Hid (EvO W b o n X ∧ i < n ∧ n ≤ c ∧ n ≤ 8192 ∧ i + 1 = i') := ⟨h, hi, hc, hn, hi'⟩
  clear h hi hc hn hi'
  go_enter Try.func37, Try.ntmps37
  go_wp2_with (at_builtin; refine wpList_append_own_at _ rfl _ _ 27 rfl W.heap.size 64 i6 _ 6 48 Try.underlying27 hi6 ha6 hb6 hc6 rfl (by decide) (.slice none 0 0) 0 _ rfl (nilOwns W W.heap.size) ⟨b, o, none⟩ i c (cellsF (fun j => evC (X (j / 6)) (j % 6)) (i * 6)) rfl (cellsF_len _ _) ?a3 ?a4 q1 q2 (Nat.le_refl _) ?_)
  case a3 => exact HP1.out.news
  case a4 => exact evOne X _
  intro v2 w3 hown1 hgr1 hnil1 hat1
  have R1 : EvRow w3 W.heap.size v2 i X := hown1
  have B2 : Below W.heap.size W w3 := (Below.refl _ W).grown hgr1 (Nat.le_refl _) (by simp [Value.ownBlock])
  obtain ⟨m, hm⟩ : ∃ m, n - i' = m := ⟨_, rfl⟩
  obtain ⟨k, hk⟩ : ∃ k, c - i' = k := ⟨_, rfl⟩
  have hP3 : EvO w3 b (o + i' * 6) m (fun k => X (i' + k)) := (H0.out.1.later B2).part i' m (by have := H0.out; omega)
  have HR2 : Hid (EvRow w3 W.heap.size v2 i X ∧ Below W.heap.size W w3 ∧ i + m ≤ maxLen ∧ (i + m) * 48 ≤ 140737488355328 ∧ EvO w3 b (o + i' * 6) m (fun k => X (i' + k)) ∧ W.heap.size ≤ w3.heap.size ∧ n = i + 1 + m ∧ c = i' + k) := ⟨R1, B2, by have := H0.out; unfold maxLen; omega, by have := H0.out; omega, hP3, B2.size, by have := H0.out; omega, by have := H0.out; omega⟩
  have FIN : Hid (∀ (v' : Value) (w' : World), w'.ownsRow W.heap.size 64 6 v' (i + m) (cellsF (fun j => evC (X (j / 6)) (j % 6)) (i * 6) ++ cellsF (fun j => evC (X (i' + j / 6)) (j % 6)) (m * 6)) → w3.grownBy w' v2.ownBlock → EvRow w' W.heap.size v' (n - 1) (delX X i) ∧ Below W.heap.size W w') := fun v' w' hown hgr => by
    have hin := HR2.out.2.2.2.2.2.2.1
    have hii := H0.out.2.2.2.2
    refine ⟨EvRow.congr (EvRow.app (Y := X) (Z := fun k => X (i' + k)) hown) (by omega) (fun k hk => ?_), HR2.out.2.1.grown hgr HR2.out.2.2.2.2.2.1 (fun r hr => (Own.lt HR2.out.1 r hr).1)⟩
    show (if k < i then X k else X (i' + (k - i))) = delX X i k
    unfold delX
    by_cases h1 : k < i
    · rw [if_pos h1, if_pos h1]
    · rw [if_neg h1, if_neg h1, show i' + (k - i) = k + 1 by omega]
  clear hown1 hgr1 hnil1 hat1 R1 B2 hP3
  have h9 := HR2.out.1
  unfold EvRow Own at h9
  by_cases hci : c = i'
  · have hm0 : m = 0 := by have h1 := HR2.out.2.2.2.2.2.2; have h2 := H0.out; omega
    have HM0 : Hid (m = 0) := hm0
    clear hm0
    go_wp2_with (at_builtin; refine wpList_append_own_at _ rfl _ _ 27 rfl W.heap.size 64 i6 _ 6 48 Try.underlying27 hi6 ha6 hb6 hc6 rfl (by decide) v2 i _ rfl h9 ⟨b, o, none⟩ m k (cellsF (fun j => evC ((fun k => X (i' + k)) (j / 6)) (j % 6)) (m * 6)) ?h1 (cellsF_len _ _) ?h3 ?h4 ?h5 ?h6 ?h7 ?_)
    case h1 => first | rfl | omega | (show _ = _; simp [Act.eval]; omega)
    case h3 => intro j u hj; rw [HM0.out] at hj; simp [cellsF] at hj
    case h4 => exact evOne (fun k => X (i' + k)) _
    case h5 => exact HR2.out.2.2.1
    case h6 => exact HR2.out.2.2.2.1
    case h7 => exact HR2.out.2.2.2.2.2.1
    intro v3 w4 hown3 hgr3 hnil3 hat3
    obtain ⟨r1, r2⟩ := FIN.out v3 w4 hown3 hgr3
    go_wp2_with fail
    go_ret
    exact ⟨v3, rfl, r1, r2⟩
  · go_wp2_with (at_builtin; refine wpList_append_own_at _ rfl _ _ 27 rfl W.heap.size 64 i6 _ 6 48 Try.underlying27 hi6 ha6 hb6 hc6 rfl (by decide) v2 i _ rfl h9 ⟨b, o + i' * 6, none⟩ m k (cellsF (fun j => evC ((fun k => X (i' + k)) (j / 6)) (j % 6)) (m * 6)) ?g1 (cellsF_len _ _) ?g3 ?g4 ?g5 ?g6 ?g7 ?_)
    case g1 => rfl
    case g3 => intro j u hj; have h8 := HR2.out.2.2.2.2.1.news j u hj; rw [addr_add0] at h8; exact h8
    case g4 => exact evOne (fun k => X (i' + k)) _
    case g5 => exact HR2.out.2.2.1
    case g6 => exact HR2.out.2.2.2.1
    case g7 => exact HR2.out.2.2.2.2.2.1
    intro v3 w4 hown3 hgr3 hnil3 hat3
    obtain ⟨r1, r2⟩ := FIN.out v3 w4 hown3 hgr3
    go_wp2_with fail
    go_ret
    exact ⟨v3, rfl, r1, r2⟩
set_option maxRecDepth 100000 in
set_option maxHeartbeats 4000000 in
theorem with0 (e : Ev) (W : World) : Calls Try.prog 31 #[.slice none 0 0, .int .i64 0, evV e] W fun r W' => ∃ b' c', r = .returned (.slice (some ⟨b', 0, none⟩) 1 c') ∧ EvO W' b' 0 1 (fun _ => e) ∧ W.heap.size ≤ b' ∧ 1 ≤ c' ∧ Below W.heap.size W W' := by
  obtain ⟨i6, hi6, ha6, hb6, hc6⟩ := qinfo infoEV
  obtain ⟨W1, hW1⟩ : ∃ W1, (W.alloc (.cells #[.int .u64 e.t, .int .i64 e.s, .int .u64 e.q, .int .i64 e.d, .int .i64 e.k, .int .i64 e.v] 64)).alloc (.cells #[.int .u64 e.t, .int .i64 e.s, .int .u64 e.q, .int .i64 e.d, .int .i64 e.k, .int .i64 e.v] 64) = W1 := ⟨_, rfl⟩
  obtain ⟨ho1, he1, hb1⟩ := two_alloc _ _ _ _ _ _ hW1
  have hz1 : W.heap.size + 1 ≤ W1.heap.size := by have := lt_of_block he1; omega
  have hA2 : Hid (∀ j u, (evL e)[j]? = some u → W1.cell? ((⟨W.heap.size + 1, 0, none⟩ : Addr).add j) = some u) := fun j u hj => by
    have h9 : evL e = (#[.int .u64 e.t, .int .i64 e.s, .int .u64 e.q, .int .i64 e.d, .int .i64 e.k, .int .i64 e.v] : Array Value).toList := rfl
    rw [h9] at hj
    rw [addr_add0, Nat.zero_add]
    unfold World.cell?
    rw [he1]
    simpa using hj
  have HW : Hid ((W.alloc (.cells #[.int .u64 e.t, .int .i64 e.s, .int .u64 e.q, .int .i64 e.d, .int .i64 e.k, .int .i64 e.v] 64)).alloc (.cells #[.int .u64 e.t, .int .i64 e.s, .int .u64 e.q, .int .i64 e.d, .int .i64 e.k, .int .i64 e.v] 64) = W1) := hW1
  have q1 : 0 + 1 ≤ maxLen := by unfold maxLen; omega
  obtain ⟨y0, y1, y2, y3, y4, y5⟩ := q6c (World.alloc_heap_new W (.cells #[.int .u64 e.t, .int .i64 e.s, .int .u64 e.q, .int .i64 e.d, .int .i64 e.k, .int .i64 e.v] 64))
  clear hW1 ho1 he1
  unfold evV
  go_enter Try.func31, Try.ntmps31
  go_wp2_with (at_builtin; rw [HW.out]; refine wpList_append_own_at _ rfl _ _ 27 rfl (W.heap.size + 1) 64 i6 _ 6 48 Try.underlying27 hi6 ha6 hb6 hc6 rfl (by decide) (.slice none 0 0) 0 _ rfl (nilOwns W1 (W.heap.size + 1)) ⟨W.heap.size + 1, 0, none⟩ 1 1 (evL e) rfl rfl hA2.out (by simp [evL, Value.oneCell']) q1 (by omega) hz1 ?_)
  intro v1 w2 hown1 hgr1 hnil1 hat1
  have R1 : EvRow w2 (W.heap.size + 1) v1 1 (fun _ => e) := hown1
  have B2 : Below W.heap.size W w2 := hb1.grown hgr1 (by omega) (by simp [Value.ownBlock])
  obtain ⟨b', c', rfl⟩ := R1.some (by decide)
  obtain ⟨r1, r2, r3⟩ := R1.evo
  have hle : ¬ c' < 1 := by omega
  have hle2 : 1 ≤ c' := r3
  have HR : Hid (EvO w2 b' 0 1 (fun _ => e) ∧ W.heap.size + 1 ≤ b' ∧ Below W.heap.size W w2) := ⟨r1, r2, B2⟩
  clear hown1 hgr1 hnil1 hat1 R1 B2 r1 r2 y0 y1 y2 y3 y4 y5 hb1 hz1
  go_wp2_with fail
  go_ret
  exact ⟨b', c', rfl, HR.out.1, by have := HR.out.2.1; omega, r3, HR.out.2.2⟩
end Go.Proofs.Ytlklolmhaiaaiaa
