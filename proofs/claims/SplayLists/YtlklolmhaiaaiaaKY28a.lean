import Derived.Test.YtlklolmhaiaaiaaKY26
namespace Go.Proofs.Ytlklolmhaiaaiaa
open Go.ChangeShapes Go.WideShapes Go.ChangeAt Go.RowKit
set_option linter.unusedVariables false
set_option linter.unusedSimpArgs false

def XAt (W : World) (p : Option Addr) (n : Nat) (F : Nat → Value) : Prop := n = 0 ∨ ∃ b o, p = some ⟨b, o, none⟩ ∧ b < W.heap.size ∧ ∀ j, j < n * 6 → W.cell? ⟨b, o + j, none⟩ = some (F j)
theorem XAt.below {W W' : World} {p : Option Addr} {n : Nat} {F : Nat → Value} (h : XAt W p n F) (hb : Below W.heap.size W W') : XAt W' p n F := by
  rcases h with h | ⟨b, o, e, hl, hc⟩
  · exact .inl h
  · exact .inr ⟨b, o, e, Nat.lt_of_lt_of_le hl hb.size, fun j hj => (cell_below (a := ⟨b, o + j, none⟩) hb hl).trans (hc j hj)⟩
theorem XAt.congr {W : World} {p : Option Addr} {n : Nat} {F G : Nat → Value} (h : XAt W p n F) (he : ∀ j, j < n * 6 → F j = G j) : XAt W p n G := by
  rcases h with h | ⟨b, o, e, hl, hc⟩
  · exact .inl h
  · exact .inr ⟨b, o, e, hl, fun j hj => by rw [hc j hj, he j hj]⟩
/-- the cells are events' -/
def EvSh (n : Nat) (F : Nat → Value) : Prop := ∀ i, i < n → ∃ t s q d k x : Int, F (i * 6) = .int .u64 t ∧ F (i * 6 + 1) = .int .i64 s ∧ F (i * 6 + 2) = .int .u64 q ∧ F (i * 6 + 3) = .int .i64 d ∧ F (i * 6 + 4) = .int .i64 k ∧ F (i * 6 + 5) = .int .i64 x
theorem EvSh.zero (F : Nat → Value) : EvSh 0 F := fun i hi => by omega
theorem neq_evV (a b c d e f : Int) (W : World) : (binOp .neq 64 (.agg #[.int .u64 a, .int .i64 b, .int .u64 c, .int .i64 d, .int .i64 e, .int .i64 f]) (.agg #[.int .u64 a, .int .i64 b, .int .u64 c, .int .i64 d, .int .i64 e, .int .i64 f])).run Try.prog W = .ok (.bool false) W := by
  go_simp
set_option maxRecDepth 100000 in
set_option maxHeartbeats 2000000 in
theorem sameEvents_yes (n : Nat) (F : Nat → Value) (p1 p2 : Option Addr) (c1 c2 : Nat) (hL : n ≤ 1000000) (w : World) (h1 : XAt w p1 n F) (h2 : XAt w p2 n F) (hs : EvSh n F) :
    Calls Try.prog 9 #[.slice p1 n c1, .slice p2 n c2] w fun e w' => e = .returned (.bool true) ∧ Below w.heap.size w w' := by
  have HH1 : Hid (XAt w p1 n F) := h1
  have HH2 : Hid (XAt w p2 n F) := h2
  have HS : Hid (EvSh n F) := hs
  clear h1 h2 hs
  go_enter Try.func9, Try.ntmps9
  go_wp2
  go_loopw [13] (fun v wr => ∃ i : Nat, v = .int .i64 i ∧ i ≤ n ∧ Below w.heap.size w wr) (fun v _ => n - (intOf v).toNat)
  case atStart => exact ⟨0, rfl, Nat.zero_le _, Below.refl _ _⟩
  case round =>
    obtain ⟨i, rfl, hi, hbel⟩ := hrel
    by_cases hlt : i < n
    · have dl : decide ((i : Int) < n) = true := decide_eq_true (by omega)
      have hm := meas0 hlt
      obtain ⟨t, s, q, d, k, x, e0, e1, e2, e3, e4, e5⟩ := HS.out i hlt
      obtain hx | ⟨g1, o1, rfl, hg1, k1⟩ := HH1.out.below hbel
      · omega
      obtain hx | ⟨g2, o2, rfl, hg2, k2⟩ := HH2.out.below hbel
      · omega
      have x0 := (k1 (i * 6) (by omega)).trans (congrArg some e0)
      have x1 := (k1 (i * 6 + 1) (by omega)).trans (congrArg some e1)
      have x2 := (k1 (i * 6 + 2) (by omega)).trans (congrArg some e2)
      have x3 := (k1 (i * 6 + 3) (by omega)).trans (congrArg some e3)
      have x4 := (k1 (i * 6 + 4) (by omega)).trans (congrArg some e4)
      have x5 := (k1 (i * 6 + 5) (by omega)).trans (congrArg some e5)
      have y0 := (k2 (i * 6) (by omega)).trans (congrArg some e0)
      have y1 := (k2 (i * 6 + 1) (by omega)).trans (congrArg some e1)
      have y2 := (k2 (i * 6 + 2) (by omega)).trans (congrArg some e2)
      have y3 := (k2 (i * 6 + 3) (by omega)).trans (congrArg some e3)
      have y4 := (k2 (i * 6 + 4) (by omega)).trans (congrArg some e4)
      have y5 := (k2 (i * 6 + 5) (by omega)).trans (congrArg some e5)
      simp only [← Nat.add_assoc] at x1 x2 x3 x4 x5 y1 y2 y3 y4 y5
      have ne1 := neq_evV t s q d k x
      clear HH1 HH2 k1 k2 HS e0 e1 e2 e3 e4 e5
      go_wp2
      go_quiet (fail)
      go_wp2
      exact ⟨⟨i + 1, rfl, hlt, hbel.trans (below_drewNq _ _ _)⟩, hm⟩
    · have dl : decide ((i : Int) < n) = false := decide_eq_false (by omega)
      obtain rfl : i = n := by omega
      clear HH1 HH2 HS
      go_wp2
      go_ret
      exact ⟨rfl, hbel⟩
theorem evSh_evC (n : Nat) (X : Nat → Ev) : EvSh n (fun j => evC (X (j / 6)) (j % 6)) := fun i hi => by
  refine ⟨(X i).t, (X i).s, (X i).q, (X i).d, (X i).k, (X i).v, ?_, ?_, ?_, ?_, ?_, ?_⟩
  all_goals simp only []
  · rw [show i * 6 / 6 = i by omega, show i * 6 % 6 = 0 by omega]; rfl
  · rw [show (i * 6 + 1) / 6 = i by omega, show (i * 6 + 1) % 6 = 1 by omega]; rfl
  · rw [show (i * 6 + 2) / 6 = i by omega, show (i * 6 + 2) % 6 = 2 by omega]; rfl
  · rw [show (i * 6 + 3) / 6 = i by omega, show (i * 6 + 3) % 6 = 3 by omega]; rfl
  · rw [show (i * 6 + 4) / 6 = i by omega, show (i * 6 + 4) % 6 = 4 by omega]; rfl
  · rw [show (i * 6 + 5) / 6 = i by omega, show (i * 6 + 5) % 6 = 5 by omega]; rfl
/-- events that lie somewhere, from the o-th on -/
theorem EvsL.xat {W : World} {b N : Nat} {X : Nat → Ev} (h : EvsL W b N X) (o m : Nat) (ho : o + m ≤ N) : XAt W (some ⟨b, o * 6, none⟩) m (fun j => evC (X (o + j / 6)) (j % 6)) := by
  refine .inr ⟨b, o * 6, rfl, h.1, fun j hj => ?_⟩
  have h9 := h.2 (o + j / 6) (j % 6) (by omega) (by omega)
  rw [show (o + j / 6) * 6 + j % 6 = o * 6 + j by omega] at h9
  exact h9
end Go.Proofs.Ytlklolmhaiaaiaa
namespace Go.Proofs.Ytlklolmhaiaaiaa
open Go.ChangeShapes Go.WideShapes Go.ChangeAt Go.RowKit
set_option linter.unusedVariables false
set_option linter.unusedSimpArgs false

theorem keyLt_irr (a : Ev) : ¬ keyLt a a := by
  rw [keyLt_iff]
  omega
theorem keyLt_asym {a b : Ev} (h : keyLt a b) : ¬ keyLt b a := by
  rw [keyLt_iff] at h ⊢
  omega
theorem keyLt_ne {a b : Ev} (h : keyLt a b) : cmpE a.t a.s a.q b ≠ 0 ∧ cmpE b.t b.s b.q a ≠ 0 := by
  rw [keyLt_iff] at h
  unfold cmpE
  rw [ne_eq, ne_eq, keyCmp_eq, keyCmp_eq]
  omega
theorem srt_ext : ∀ {L M : List Ev}, L.Pairwise keyLt → M.Pairwise keyLt → (∀ x, x ∈ L ↔ x ∈ M) → L = M
  | [], [], _, _, _ => rfl
  | [], b :: M, _, _, h => absurd ((h b).2 (List.mem_cons_self ..)) (by simp)
  | a :: L, [], _, _, h => absurd ((h a).1 (List.mem_cons_self ..)) (by simp)
  | a :: L, b :: M, h1, h2, h => by
    have h1' := List.pairwise_cons.1 h1
    have h2' := List.pairwise_cons.1 h2
    have hab : a = b := by
      rcases List.mem_cons.1 ((h a).1 (List.mem_cons_self ..)) with e | e
      · exact e
      · rcases List.mem_cons.1 ((h b).2 (List.mem_cons_self ..)) with e2 | e2
        · exact e2.symm
        · exact absurd (h1'.1 b e2) (keyLt_asym (h2'.1 a e))
    subst hab
    refine congrArg (a :: ·) (srt_ext h1'.2 h2'.2 fun x => ⟨fun hx => ?_, fun hx => ?_⟩)
    · rcases List.mem_cons.1 ((h x).1 (List.mem_cons_of_mem _ hx)) with e | e
      · subst e; exact absurd (h1'.1 _ hx) (keyLt_irr _)
      · exact e
    · rcases List.mem_cons.1 ((h x).2 (List.mem_cons_of_mem _ hx)) with e | e
      · subst e; exact absurd (h2'.1 _ hx) (keyLt_irr _)
      · exact e
theorem QS.srt {base qb g : Nat} {room wb : Int} {L : List Ev} {W : World} (h : QS base qb g room wb L W) : L.Pairwise keyLt := by
  obtain ⟨c, n, A, t, fl, root, work, hq, hL, hw⟩ := h
  rw [hL]
  exact List.pairwise_map.2 hq.srt
/-- what was taken out of a sorted list goes in again, from the back -/
theorem putBack {L1 L2 : List Ev} (h : (L1 ++ L2).Pairwise keyLt) {k : Nat} {e : Ev} (he : L2[k]? = some e) : (¬ ∃ x ∈ L1 ++ L2.drop (k + 1), cmpE e.t e.s e.q x = 0) ∧ ∀ L' : List Ev, L'.Pairwise keyLt → (∀ x, x ∈ L' ↔ x = e ∨ x ∈ L1 ++ L2.drop (k + 1)) → L' = L1 ++ L2.drop k := by
  obtain ⟨hk, he2⟩ := List.getElem?_eq_some_iff.1 he
  have hd : L2.drop k = e :: L2.drop (k + 1) := by rw [List.drop_eq_getElem_cons hk, he2]
  have hp : (L1 ++ L2.drop k).Pairwise keyLt := h.sublist (List.Sublist.append_left (List.drop_sublist _ _) _)
  rw [hd] at hp ⊢
  have hp2 := List.pairwise_append.1 hp
  refine ⟨?_, fun L' hs hm => srt_ext hs hp fun x => ?_⟩
  · rintro ⟨x, hx, hc⟩
    rcases List.mem_append.1 hx with h9 | h9
    · exact (keyLt_ne (hp2.2.2 x h9 e (List.mem_cons_self ..))).2 hc
    · exact (keyLt_ne ((List.pairwise_cons.1 hp2.2.1).1 x h9)).1 hc
  · rw [hm, List.mem_append, List.mem_append, List.mem_cons]
    constructor
    · rintro (h9 | h9 | h9)
      · exact .inr (.inl h9)
      · exact .inl h9
      · exact .inr (.inr h9)
    · rintro (h9 | h9 | h9)
      · exact .inr (.inl h9)
      · exact .inl h9
      · exact .inr (.inr h9)
theorem EvsL.keep {W W' : World} {b N : Nat} {X : Nat → Ev} {S : Nat → Prop} (h : EvsL W b N X) (hc : Ch S W W') (hs : ¬ S b) : EvsL W' b N X := ⟨Nat.lt_of_lt_of_le h.1 hc.size, fun i r hi hr => (World.cell?_of_block (hc.block b h.1 hs)).trans (h.2 i r hi hr)⟩
/-- the cells of the list that two sides see -/
theorem EvsL.xatEq {W : World} {b N : Nat} {X Y : Nat → Ev} (h : EvsL W b N X) (o m : Nat) (ho : o + m ≤ N) (he : ∀ i, i < m → X (o + i) = Y i) : XAt W (some ⟨b, o * 6, none⟩) m (fun j => evC (Y (j / 6)) (j % 6)) :=
  (h.xat o m ho).congr fun j hj => by rw [he (j / 6) (by omega)]
end Go.Proofs.Ytlklolmhaiaaiaa
