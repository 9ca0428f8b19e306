import Derived.Test.YtnofndpgodledaaYS1
import Derived.Test.YtnofndpgodledaaSO11
namespace Go.Proofs.Ytnofndpgodledaa
open Go.ChangeShapes Go.WideShapes Go.ChangeAt Go.RowKit
set_option linter.unusedVariables false
set_option linter.unusedSimpArgs false

def toSe (e : Ev) : Se := ⟨e.t, e.s, e.q, e.d, e.k, e.v⟩
theorem toSe_inj {a b : Ev} (h : toSe a = toSe b) : a = b := by
  cases a
  cases b
  unfold toSe at h
  injection h with h1 h2 h3 h4 h5 h6
  simp only at h1 h2 h3 h4 h5 h6
  subst h1 h2 h3 h4 h5 h6
  rfl
theorem seC_evC (e : Ev) (r : Nat) : seC (toSe e) r = evC e r := rfl
/-- what a queue filled with X 0 .. X (M - 1) holds: of each key the first -/
def FF (X : Nat → Ev) (M : Nat) (L : List Ev) : Prop := L.length ≤ M ∧ ∀ x, x ∈ L ↔ ∃ i, i < M ∧ x = X i ∧ ∀ k, k < i → cmpE (X k).t (X k).s (X k).q (X i) ≠ 0
theorem cmpE_eq (t s q : Int) (x : Ev) : cmpE t s q x = 0 ↔ t = x.t ∧ s = x.s ∧ q = x.q := keyCmp_eq _ _ _ _ _ _
theorem FF.zero (X : Nat → Ev) : FF X 0 [] := ⟨Nat.le_refl _, fun x => ⟨fun h => (by cases h), fun ⟨i, hi, _⟩ => absurd hi (Nat.not_lt_zero _)⟩⟩
theorem FF.first {X : Nat → Ev} {M : Nat} {L : List Ev} (h : FF X M L) : ∀ k, k < M → ∃ x ∈ L, cmpE (X k).t (X k).s (X k).q x = 0 := fun k => by
  induction k using Nat.strongRecOn with
  | ind k ih =>
    intro hk
    by_cases hall : ∀ j, j < k → cmpE (X j).t (X j).s (X j).q (X k) ≠ 0
    · exact ⟨X k, (h.2 _).2 ⟨k, hk, rfl, hall⟩, keyCmp_self _ _ _⟩
    · have : ∃ j, j < k ∧ cmpE (X j).t (X j).s (X j).q (X k) = 0 := Classical.byContradiction fun hn => hall fun j hj e => hn ⟨j, hj, e⟩
      obtain ⟨j, hj, e⟩ := this
      obtain ⟨x, hx, e2⟩ := ih j hj (by omega)
      rw [cmpE_eq] at e e2
      exact ⟨x, hx, by rw [cmpE_eq]; omega⟩
theorem FF.twin {X : Nat → Ev} {M : Nat} {L : List Ev} (h : FF X M L) (h2 : ∃ x ∈ L, cmpE (X M).t (X M).s (X M).q x = 0) : FF X (M + 1) L := by
  refine ⟨by have := h.1; omega, fun x => ?_⟩
  constructor
  · intro hx
    obtain ⟨i, hi, e, hf⟩ := (h.2 x).1 hx
    exact ⟨i, by omega, e, hf⟩
  · rintro ⟨i, hi, e, hf⟩
    by_cases hM : i < M
    · exact (h.2 x).2 ⟨i, hM, e, hf⟩
    · exfalso
      obtain rfl : i = M := by omega
      obtain ⟨y, hy, ey⟩ := h2
      obtain ⟨j, hj, rfl, _⟩ := (h.2 y).1 hy
      refine hf j hj ?_
      rw [cmpE_eq] at ey ⊢
      omega
theorem FF.put {X : Nat → Ev} {M : Nat} {L L' : List Ev} (h : FF X M L) (hno : ¬ ∃ x ∈ L, cmpE (X M).t (X M).s (X M).q x = 0) (hl : L'.length = L.length + 1) (h2 : ∀ x, x ∈ L' ↔ x = X M ∨ x ∈ L) : FF X (M + 1) L' := by
  refine ⟨by have := h.1; omega, fun x => ?_⟩
  rw [h2]
  constructor
  · rintro (e | hx)
    · refine ⟨M, by omega, e, fun k hk ek => hno ?_⟩
      obtain ⟨y, hy, ey⟩ := h.first k hk
      rw [cmpE_eq] at ey ek
      exact ⟨y, hy, by rw [cmpE_eq]; omega⟩
    · obtain ⟨i, hi, e, hf⟩ := (h.2 x).1 hx
      exact ⟨i, by omega, e, hf⟩
  · rintro ⟨i, hi, e, hf⟩
    by_cases hM : i < M
    · exact .inr ((h.2 x).2 ⟨i, hM, e, hf⟩)
    · obtain rfl : i = M := by omega
      exact .inl e
/-- what Insert did, full aside -/
theorem insThree {base qb g : Nat} {room wb : Int} {X : Nat → Ev} {M : Nat} {L : List Ev} {W W' : World} {code : Int} (h : InsR base qb g room wb L (X M) W code W') (h1 : (L.length : Int) ≠ room) (hF : FF X M L) : ∃ g' L', QS base qb g' room (wb + 8192) L' W' ∧ (g' = g ∨ W.heap.size ≤ g') ∧ Ch (S2 qb g) W W' ∧ (code = 81 ∨ code = 0) ∧ FF X (M + 1) L' := by
  obtain ⟨g', hc, hg, hC⟩ := h
  rcases hc with ⟨h3, _⟩ | ⟨_, h3, h4, h5⟩ | ⟨_, h3, h4, L', h5, h6, h7⟩
  · exact absurd h3 h1
  · exact ⟨g', L, h5, hg, hC, .inl h4, hF.twin h3⟩
  · exact ⟨g', L', h5, hg, hC, .inr h4, hF.put h3 h6 h7⟩
/-- the queue's list is what distinct tells -/
theorem ff_dl {X : Nat → Ev} {n : Nat} {L : List Ev} {d : Nat → Se} (h : FF X n L) (hs : L.Pairwise keyLt) (hst : Stb klt 0 n (fun i => toSe (X i)) d) (hsr : Srt klt 0 n d) : L.map toSe = dl d n := by
  refine rise_one _ _ (List.pairwise_map.2 (hs.imp fun {a b} hab => (klt_iff _ _).2 ((keyLt_iff a b).1 hab))) (dl_rise hsr n (Nat.le_refl _)) fun x => ?_
  rw [dl_first hst hsr, List.mem_map]
  constructor
  · rintro ⟨y, hy, rfl⟩
    obtain ⟨i, hi, rfl, hf⟩ := (h.2 y).1 hy
    exact ⟨i, hi, rfl, fun k hk e => hf k hk ((cmpE_eq _ _ _ _).2 e)⟩
  · rintro ⟨j, hj, rfl, hf⟩
    exact ⟨X j, (h.2 _).2 ⟨j, hj, rfl, fun k hk e => hf k hk ((cmpE_eq _ _ _ _).1 e)⟩, rfl⟩
theorem celL_at : ∀ (M : List Se) (i r : Nat), r < 6 → i < M.length → (celL M)[i * 6 + r]? = (M[i]?).map (fun e => seC e r)
  | [], i, r, _, hi => absurd hi (Nat.not_lt_zero _)
  | x :: M, i, r, hr, hi => by
    show (seL x ++ celL M)[i * 6 + r]? = _
    cases i with
    | zero =>
      rw [List.getElem?_append_left (by show 0 * 6 + r < 6; omega)]
      have : r = 0 ∨ r = 1 ∨ r = 2 ∨ r = 3 ∨ r = 4 ∨ r = 5 := by omega
      rcases this with rfl | rfl | rfl | rfl | rfl | rfl <;> rfl
    | succ i =>
      rw [List.getElem?_append_right (by show 6 ≤ (i + 1) * 6 + r; omega), show (seL x).length = 6 from rfl, show (i + 1) * 6 + r - 6 = i * 6 + r by omega, celL_at M i r hr (by simpa using hi)]
      rfl
theorem srow_far {W W' : World} {base : Nat} {t : TypeId} {s m : Nat} {v : Value} {xs : List Value} {S : Nat → Prop} (h : W.ownsRow base t s v m xs) (hc : Ch S W W') (hs : ∀ k, v.ownBlock = some k → ¬ S k) : W'.ownsRow base t s v m xs := by
  rcases h with ⟨h1, h2 | ⟨g, cap, cur, e, hg, hh, r⟩⟩
  · exact ⟨h1, .inl h2⟩
  · exact ⟨h1, .inr ⟨g, cap, cur, e, hg, (hc.block g (Array.getElem?_eq_some_iff.1 hh).1 (hs g (by rw [e]; rfl))).trans hh, r⟩⟩
/-- a row that lists events: its form -/
theorem srow_form {W : World} {base : Nat} {t : TypeId} {s m : Nat} {v : Value} {xs : List Value} (h : W.ownsRow base t s v m xs) : ∃ p c, v = .slice p m c := by
  rcases h with ⟨h1, ⟨h2, h3⟩ | ⟨g, cap, cur, e, _⟩⟩
  · exact ⟨none, 0, by rw [h2, h3]⟩
  · exact ⟨_, _, e⟩
/-- the row's cells -/
theorem srow_xat {W : World} {base m c : Nat} {p : Option Addr} {L : List Ev} {Y : Nat → Ev} (h : W.ownsRow base 33 6 (.slice p m c) m (celL (L.map toSe))) (hm : L.length = m) (hY : ∀ i, i < m → L[i]? = some (Y i)) : XAt W p m (fun j => evC (Y (j / 6)) (j % 6)) := by
  by_cases h0 : m = 0
  · exact .inl h0
  rcases h with ⟨h1, ⟨h2, h3⟩ | ⟨g, cap, cur, e, hb, hg, hnc, hcm, hcs, htk⟩⟩
  · exact absurd h3 h0
  injection e with e1 e2 e3
  refine .inr ⟨g, 0, e1, (Array.getElem?_eq_some_iff.1 hg).1, fun j hj => ?_⟩
  have hc := celL_at (L.map toSe) (j / 6) (j % 6) (by omega) (by rw [List.length_map]; omega)
  rw [List.getElem?_map, hY (j / 6) (by omega), show j / 6 * 6 + j % 6 = j by omega] at hc
  have h9 : cur.toList[j]? = some (evC (Y (j / 6)) (j % 6)) := by
    have h8 : (cur.toList.take (m * 6))[j]? = (celL (L.map toSe))[j]? := by rw [htk]
    rw [List.getElem?_take, if_pos hj] at h8
    rw [h8, hc]
    rfl
  rw [Nat.zero_add]
  unfold World.cell?
  rw [hg]
  simpa using h9
theorem evIn_sIn {W : World} {p : Option Addr} {N n : Nat} {X : Nat → Ev} (h : EvIn W p N X) (hn : n ≤ N) : SIn W p n (fun i => toSe (X i)) := by
  by_cases h0 : n = 0
  · exact .inl h0
  rcases h with h | ⟨b, o, h1, h2, h3⟩
  · omega
  · refine .inr ⟨b, o, h1, h2, fun j hj => ?_⟩
    have := h3 (j / 6) (j % 6) (by omega) (by omega)
    rw [show o + j / 6 * 6 + j % 6 = o + j by omega] at this
    exact this
end Go.Proofs.Ytnofndpgodledaa
