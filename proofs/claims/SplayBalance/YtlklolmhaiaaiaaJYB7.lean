import Derived.Test.YtlklolmhaiaaiaaJYB6
namespace Go.Proofs.Ytlklolmhaiaaiaa
open Go.ChangeShapes Go.WideShapes Go.ChangeAt Go.RowKit
set_option linter.unusedVariables false
set_option linter.unusedSimpArgs false

theorem find_there {t : Tr} {E : Nat → Ev} {kt ks kq : Int} (hs : t.ps.Pairwise fun p q => keyLt (E p) (E q)) (hz : ∀ p ∈ t.ps, p ≠ 0) (hx : ∃ x ∈ t.ps.map E, cmpE kt ks kq x = 0) : (openT (sdK kt ks kq E) t).m ≠ 0 := by
  intro hm
  have hps := openT_ps (side_sdK kt ks kq E) t.size t (Nat.le_refl _) hz
  obtain ⟨hs1, hs2, hs3⟩ := openT_side (s := sK kt ks kq E) (side_sdK kt ks kq E) (fun _ _ _ => rfl) t.size t (Nat.le_refl _) hz (mono_sK _ _ _ _ hs)
  obtain ⟨y, hy, hcy⟩ := hx
  obtain ⟨p, hp, rfl⟩ := List.mem_map.1 hy
  rw [hm, mid0, List.append_nil] at hps
  rw [← hps] at hp
  rcases List.mem_append.1 hp with h2 | h2
  · have := sK_1.1 (hs1 p h2); omega
  · have := sK_0.1 (hs2 p h2); omega
theorem paid_any {qb g c cd : Nat} {p pd : Option Addr} {E : Nat → Ev} {t : Tr} {room : Int} (o : OpV) (k : Nat) (full : Bool) (W : World) (hf : full = true ↔ (t.size : Int) = room) (h : PIn W qb g p c pd (t.ps.map E) t) (hs : t.ps.Pairwise fun p q => keyLt (E p) (E q)) (hz : ∀ p ∈ t.ps, p ≠ 0) (hP : PaidC o room E t k) : Calls Try.prog 13 #[.agg (opA o), .slice p (t.ps.map E).length c, .slice pd (t.ps.map E).length cd, .bool full, .int .i64 (k : Int)] W fun e W' => e = .returned (.bool true) ∧ Below W.heap.size W W' := by
  have hl := h.len
  have nil0 : t.size = 0 → t = .nil := fun h0 => by cases t with
    | nil => rfl
    | node l x r => simp only [Tr.size] at h0; omega
  have nil1 : 0 < t.size → t ≠ .nil := fun h0 e => by rw [e] at h0; simp [Tr.size] at h0
  by_cases k1 : o.kd = 1
  · by_cases hfull : (t.size : Int) = room
    · have e1 := hf.2 hfull
      subst e1
      have e2 := hP.insF k1 hfull
      subst e2
      exact paid_full o 0 W h k1
    · have e1 : full = false := by
        cases full with
        | true => exact absurd (hf.1 rfl) hfull
        | false => rfl
      subst e1
      exact paid_ins o k W h k1 fun i th hsk => (wayN_key hs hsk).trans (hP.ins k1 hfull).symm
  by_cases k2 : o.kd = 2
  · exact paid_min2 o k full W h k1 k2 (fun h0 => hP.nil (.inl k2) (nil0 (by omega))) (fun h0 => (wayN_left (nil1 (by omega))).trans (hP.min (.inl k2) (nil1 (by omega))).symm)
  by_cases k3 : o.kd = 3
  · exact paid_min3 o k full W h k1 k2 k3 (fun h0 => hP.nil (.inr k3) (nil0 (by omega))) (fun h0 => (wayN_left (nil1 (by omega))).trans (hP.min (.inr k3) (nil1 (by omega))).symm)
  by_cases k4 : o.kd = 4
  · refine paid_find o k full W h k1 k2 k3 k4 (fun i hsk => ?_) fun i hsk => ?_
    · have h1 := wayN_key hs hsk
      rw [hP.findY k4 (find_there hs hz (hsk.iff.1 rfl)), ← h1]
      rfl
    · rw [wayN_key hs hsk]
      exact hP.findN k4
  by_cases k5 : o.kd = 5
  · refine paid_rem o k full W h k1 k2 k3 k4 k5 fun i th hsk => ?_
    rw [wayN_key hs hsk]
    exact hP.rem k5
  by_cases k6 : o.kd = 6
  · refine paid_split o k full W h k1 k2 k3 k4 k5 k6 fun i hi h1 h2 => ?_
    rw [wayN_time hs (by omega) h1 (fun h9 => h2 (by omega))]
    exact (hP.split k6).symm
  have e2 := hP.idle k1 k2 k3 k4 k5 k6
  subst e2
  exact paid_else o 0 full W h k1 k2 k3 k4 k5 k6
/-! ### calls that leave the tree as it is -/
theorem depthsB {E0 : Nat → Ev} {t0 : Tr} {w0 : Int} {base qb g : Nat} {room wb : Int} {L : List Ev} (W : World) (h : QSR (BR0 E0 t0 w0) base qb g room wb L W) : Calls Try.prog 7 #[.pointer (some ⟨qb, 0, none⟩)] W fun e W' => ∃ pd cd, e = .returned (.slice pd L.length cd) ∧ DpW W' pd t0 ∧ (∀ b o f, pd = some ⟨b, o, f⟩ → W.heap.size ≤ b) ∧ QSR (BR0 E0 t0 w0) base qb g room wb L W' ∧ Ch (S2 qb g) W W' := by
  obtain ⟨c, n, A, t, fl, root, work, hq, hL, hw, rfl, rfl, rfl⟩ := h
  have hn1 := hq.n1
  have el : L.length = t.size := by rw [hL, List.length_map, Tr.size_ps]
  refine (depths_any base qb g c n A _ root _ room work t W hq.q hn1.2.1 hq.ti hq.ndT hq.inT hn1.2.2).mono ?_
  rintro e' W' ⟨gw, cw, rfl, hO, hQ, hC⟩
  refine ⟨gw, cw, by rw [el], ?_, ?_, ⟨c, n, A, t, fl, root, work, ⟨hQ, hq.ti, hq.fr, hq.nd, hq.inr, hq.cnt, hq.z, hq.nr, hq.rm, hq.srt, hq.wk⟩, hL, hw, rfl, rfl, rfl⟩, hC⟩
  · rcases hO.form with ⟨_, h2⟩ | ⟨b, c9, h2, h3, h4⟩
    · exact .inl h2
    · injection h2 with h5 h6 h7
      subst h5
      exact .inr ⟨b, rfl, h4, fun i hi => hO.cell (by omega)⟩
  · intro b o f e
    rcases hO.form with ⟨h2, _⟩ | ⟨b9, c9, h2, h3, h4⟩
    · injection h2 with h5
      rw [h5] at e
      cases e
    · injection h2 with h5 h6 h7
      rw [h5] at e
      injection e with e
      injection e with e1
      omega
theorem workB {E0 : Nat → Ev} {t0 : Tr} {w0 : Int} {base qb g : Nat} {room wb : Int} {L : List Ev} (W : World) (h : QSR (BR0 E0 t0 w0) base qb g room wb L W) : Calls Try.prog 8 #[.pointer (some ⟨qb, 0, none⟩)] W fun e W' => e = .returned (.int .i64 w0) ∧ W' = W := by
  obtain ⟨c, n, A, t, fl, root, work, hq, hL, hw, rfl, rfl, rfl⟩ := h
  exact workQ W hq
theorem new_QSR {R : (Nat → Ev) → Tr → Int → Prop} (hR : ∀ E, R E .nil 0) {W : World} {base qb nb : Nat} {room : Int} (hq : W.heap[qb]? = some (.cells #[.slice (some ⟨nb, 0, none⟩) 1 1, .int .i64 0, .int .i64 0, .int .i64 0, .int .i64 room, .int .i64 0] 58 (0, 0))) (hO : Own W base 67 8 (.slice (some ⟨nb, 0, none⟩) 1 1) 1 zNd) (hne : qb ≠ nb) (hb : base ≤ qb) (hr : 1 ≤ room ∧ room ≤ 8192) : QSR R base qb nb room 0 [] W := by
  refine ⟨1, 1, ⟨fun _ => ev0, fun _ => 0, fun _ => 0⟩, .nil, [], 0, 0, ⟨⟨?_, ?_, fun e => hne e.symm⟩, rfl, trivial, by simp [Tr.ps], by simp [Tr.ps], rfl, ⟨rfl, rfl⟩, by omega, hr, List.Pairwise.nil, Int.le_refl _⟩, rfl, Int.le_refl _, hR _⟩
  · refine Own.mk' hq rfl (Nat.le_refl _) (by unfold maxLen; omega) hb fun j hj => ?_
    have : j = 0 ∨ j = 1 ∨ j = 2 ∨ j = 3 ∨ j = 4 ∨ j = 5 := by omega
    rcases this with rfl | rfl | rfl | rfl | rfl | rfl <;> rfl
  · refine hO.congr fun j hj => ?_
    have : j = 0 ∨ j = 1 ∨ j = 2 ∨ j = 3 ∨ j = 4 ∨ j = 5 ∨ j = 6 ∨ j = 7 := by omega
    rcases this with rfl | rfl | rfl | rfl | rfl | rfl | rfl | rfl <;> rfl
/-! ### the balance -/
def BL (lim : Nat) : (Nat → Ev) → Tr → Int → Prop := fun _ t w => 0 ≤ w ∧ 2 ^ w.toNat * t.pw ≤ 2 ^ lim
theorem BL.nil (E : Nat → Ev) : BL 0 E .nil 0 := ⟨Int.le_refl _, by simp [Tr.pw, Tr.pot]⟩
theorem BL.le {lim : Nat} {E : Nat → Ev} {t : Tr} {w : Int} (h : BL lim E t w) : w ≤ lim := by
  have h2 : 2 ^ w.toNat ≤ 2 ^ lim := Nat.le_trans (Nat.le_mul_of_pos_right _ t.pw_pos) h.2
  have := (Nat.pow_le_pow_iff_right (by decide)).1 h2
  omega
def limB (o : OpV) (t : Tr) : Nat := if 1 ≤ o.kd ∧ o.kd ≤ 6 then share t.size else 0
theorem BL.step {o : OpV} {lim k : Nat} {E E' : Nat → Ev} {t t' : Tr} {w : Int} (h : BL lim E t w) (hp : 2 ^ k * t'.pw ≤ potB o t * t.pw) : BL (lim + limB o t) E' t' (w + k) := by
  have e : potB o t = 2 ^ limB o t := by unfold potB limB; split <;> rfl
  have h0 := h.1
  refine ⟨by omega, ?_⟩
  rw [show (w + (k : Int)).toNat = w.toNat + k by omega, Nat.pow_add, Nat.pow_add, Nat.mul_assoc]
  rw [e] at hp
  refine Nat.le_trans (Nat.mul_le_mul (Nat.le_refl _) hp) ?_
  rw [Nat.mul_left_comm, Nat.mul_comm (2 ^ lim)]
  exact Nat.mul_le_mul (Nat.le_refl _) h.2
theorem share_le {n : Nat} (h : n ≤ 8192) : share n ≤ 200 := by
  have := dig_small 14 n (by omega)
  unfold share
  omega
theorem DpW.keep {W W' : World} {qb g : Nat} {pd : Option Addr} {t : Tr} {base : Nat} (h : DpW W pd t) (hb : ∀ b o f, pd = some ⟨b, o, f⟩ → base ≤ b) (h1 : qb < base) (h2 : g < base) (hC : Ch (S2 qb g) W W') : DpW W' pd t := by
  rcases h with h | ⟨b, rfl, h3, h4⟩
  · exact .inl h
  · have h5 := hb b 0 none rfl
    refine .inr ⟨b, rfl, Nat.lt_of_lt_of_le h3 hC.size, fun i hi => ?_⟩
    rw [← h4 i hi]
    exact World.cell?_of_block (hC.block b h3 (by rintro (e | e) <;> omega))
end Go.Proofs.Ytlklolmhaiaaiaa
