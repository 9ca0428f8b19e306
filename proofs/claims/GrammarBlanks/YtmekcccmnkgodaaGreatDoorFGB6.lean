import Derived.Test.YtmekcccmnkgodaaGreatDoorFSP1
import Derived.Test.YtmekcccmnkgodaaGreatDoorFSP5
import Derived.Test.YtmekcccmnkgodaaGreatDoorFLF1
import Derived.Test.YtmekcccmnkgodaaGreatDoorFLMark
import Derived.Test.YtmekcccmnkgodaaGreatDoorFGB4
import Derived.Test.YtmekcccmnkgodaaGreatDoorFG3
import Derived.Test.YtmekcccmnkgodaaGreatDoorFLSame
import Derived.Test.YtmekcccmnkgodaaGreatDoorFLSee
namespace Go.Proofs.YtmekcccmnkgodaaGreatDoor
open Go.ChangeShapes Go.WideShapes Go.ChangeAt Go.RowKit
set_option linter.unusedVariables false
set_option linter.unusedSimpArgs false
/-! ### where a text's tokens stand -/
/-- places only go on -/
theorem scan_after : ∀ (n : Nat) (s : Bs) (l c cnt : Nat), s.length ≤ n → ∀ t ∈ (scan s l c cnt).1, (l : Int) < t.line ∨ (l : Int) = t.line ∧ (c : Int) ≤ t.col := by
  intro n
  induction n with
  | zero =>
    intro s l c cnt hs t ht
    obtain rfl : s = [] := List.eq_nil_of_length_eq_zero (by omega)
    rw [scan_nil] at ht
    cases ht
  | succ n ih =>
    intro s l c cnt hs t ht
    cases s with
    | nil =>
      rw [scan_nil] at ht
      cases ht
    | cons x r =>
      simp only [List.length_cons] at hs
      by_cases h1 : x.toNat = 10
      · rw [scan_nl _ _ _ _ _ h1] at ht
        have := ih r _ _ _ (by omega) t ht
        omega
      · by_cases h2 : x.toNat = 32 ∨ x.toNat = 9 ∨ x.toNat = 13
        · rw [scan_bl _ _ _ _ _ h2] at ht
          have := ih r _ _ _ (by omega) t ht
          omega
        · by_cases h3 : x.toNat = 35
          · rw [scan_cm _ _ _ _ _ h3] at ht
            have := ih _ _ _ _ (by rw [List.length_drop]; omega) t ht
            omega
          · have hst : startT x := ⟨h1, fun e => h2 (.inl e), fun e => h2 (.inr (.inl e)), fun e => h2 (.inr (.inr e)), h3⟩
            cases hr : rd (x :: r) with
            | err e =>
              rw [scan_er _ _ _ _ _ _ hst hr] at ht
              cases ht
            | ok k u v =>
              by_cases hc : cnt = 16384
              · subst hc
                rw [scan_full _ _ _ _ _ _ _ hst hr] at ht
                cases ht
              · rw [scan_ok _ _ _ _ _ _ _ _ hst hr hc] at ht
                rcases List.mem_cons.1 ht with rfl | ht
                · exact .inr ⟨rfl, Int.le_refl _⟩
                · have := ih _ _ _ _ (by rw [List.length_drop]; omega) t ht
                  omega
theorem scan_far : ∀ (n : Nat) (s : Bs) (l c cnt : Nat), s.length ≤ n → 1 ≤ c → ∀ t ∈ (scan s l c cnt).1, t.line ≤ ((l + s.length : Nat) : Int) ∧ t.col ≤ ((c + s.length : Nat) : Int) := by
  intro n
  induction n with
  | zero =>
    intro s l c cnt hs _ t ht
    obtain rfl : s = [] := List.eq_nil_of_length_eq_zero (by omega)
    rw [scan_nil] at ht
    cases ht
  | succ n ih =>
    intro s l c cnt hs hc1 t ht
    cases s with
    | nil =>
      rw [scan_nil] at ht
      cases ht
    | cons x r =>
      simp only [List.length_cons] at hs ⊢
      by_cases h1 : x.toNat = 10
      · rw [scan_nl _ _ _ _ _ h1] at ht
        have := ih r _ _ _ (by omega) (by omega) t ht
        omega
      · by_cases h2 : x.toNat = 32 ∨ x.toNat = 9 ∨ x.toNat = 13
        · rw [scan_bl _ _ _ _ _ h2] at ht
          have := ih r _ _ _ (by omega) (by omega) t ht
          omega
        · by_cases h3 : x.toNat = 35
          · rw [scan_cm _ _ _ _ _ h3] at ht
            have htl : (r.takeWhile pC).length ≤ r.length := by
              have := congrArg List.length (twp_split pC r)
              rw [List.length_append] at this
              omega
            have := ih _ _ _ _ (by rw [List.length_drop]; omega) (by omega) t ht
            rw [List.length_drop] at this
            omega
          · have hst : startT x := ⟨h1, fun e => h2 (.inl e), fun e => h2 (.inr (.inl e)), fun e => h2 (.inr (.inr e)), h3⟩
            cases hr : rd (x :: r) with
            | err e =>
              rw [scan_er _ _ _ _ _ _ hst hr] at ht
              cases ht
            | ok k u v =>
              by_cases hc : cnt = 16384
              · subst hc
                rw [scan_full _ _ _ _ _ _ _ hst hr] at ht
                cases ht
              · rw [scan_ok _ _ _ _ _ _ _ _ hst hr hc] at ht
                rcases List.mem_cons.1 ht with rfl | ht
                · show (l : Int) ≤ _ ∧ (c : Int) ≤ _
                  omega
                · have hlen := rd_len _ _ _ _ _ hr
                  have h1 := (rd_front _ _ _ _ _ hr).2
                  simp only [List.length_cons] at hlen
                  have := ih _ _ _ _ (by rw [List.length_drop]; omega) (by omega) t ht
                  rw [List.length_drop] at this
                  omega
theorem scanT_len {src : Bs} {ts : List Tk} (h : scanT src = (ts, none)) : src.length ≤ 65536 := by
  by_cases h1 : src.length > 65536
  · unfold scanT at h
    rw [if_pos h1] at h
    cases h
  · omega
theorem scan_lo : ∀ (n : Nat) (s : Bs) (l c cnt : Nat), s.length ≤ n → 1 ≤ c → ∀ t ∈ (scan s l c cnt).1, (l : Int) ≤ t.line ∧ 1 ≤ t.col := by
  intro n
  induction n with
  | zero =>
    intro s l c cnt hs _ t ht
    obtain rfl : s = [] := List.eq_nil_of_length_eq_zero (by omega)
    rw [scan_nil] at ht
    cases ht
  | succ n ih =>
    intro s l c cnt hs hc1 t ht
    cases s with
    | nil =>
      rw [scan_nil] at ht
      cases ht
    | cons x r =>
      simp only [List.length_cons] at hs ⊢
      by_cases h1 : x.toNat = 10
      · rw [scan_nl _ _ _ _ _ h1] at ht
        have := ih r _ _ _ (by omega) (by omega) t ht
        omega
      · by_cases h2 : x.toNat = 32 ∨ x.toNat = 9 ∨ x.toNat = 13
        · rw [scan_bl _ _ _ _ _ h2] at ht
          have := ih r _ _ _ (by omega) (by omega) t ht
          omega
        · by_cases h3 : x.toNat = 35
          · rw [scan_cm _ _ _ _ _ h3] at ht
            have htl : (r.takeWhile pC).length ≤ r.length := by
              have := congrArg List.length (twp_split pC r)
              rw [List.length_append] at this
              omega
            have := ih _ _ _ _ (by rw [List.length_drop]; omega) (by omega) t ht
            omega
          · have hst : startT x := ⟨h1, fun e => h2 (.inl e), fun e => h2 (.inr (.inl e)), fun e => h2 (.inr (.inr e)), h3⟩
            cases hr : rd (x :: r) with
            | err e =>
              rw [scan_er _ _ _ _ _ _ hst hr] at ht
              cases ht
            | ok k u v =>
              by_cases hc : cnt = 16384
              · subst hc
                rw [scan_full _ _ _ _ _ _ _ hst hr] at ht
                cases ht
              · rw [scan_ok _ _ _ _ _ _ _ _ hst hr hc] at ht
                rcases List.mem_cons.1 ht with rfl | ht
                · show (l : Int) ≤ (l : Int) ∧ 1 ≤ (c : Int)
                  omega
                · have hlen := rd_len _ _ _ _ _ hr
                  have h1 := (rd_front _ _ _ _ _ hr).2
                  simp only [List.length_cons] at hlen
                  have := ih _ _ _ _ (by rw [List.length_drop]; omega) (by omega) t ht
                  omega
theorem scanT_tkR {src : Bs} {ts : List Tk} (h : scanT src = (ts, none)) : ∀ i, i < ts.length → TkR (ts.getD i nT) := fun i hi => by
  have hl := scanT_len h
  have hs : scan src 1 1 0 = (ts, none) := by
    unfold scanT at h
    rw [if_neg (by omega)] at h
    exact h
  have hm : ts[i] ∈ (scan src 1 1 0).1 := by rw [hs]; exact List.getElem_mem hi
  have e : ts.getD i nT = ts[i] := by rw [List.getD_eq_getElem?_getD, List.getElem?_eq_getElem hi]; rfl
  rw [e]
  have h1 := scan_short _ src 1 1 0 (Nat.le_refl _) _ hm
  have h2 := scan_far _ src 1 1 0 (Nat.le_refl _) (Nat.le_refl _) _ hm
  have h3 := scan_lo _ src 1 1 0 (Nat.le_refl _) (Nat.le_refl _) _ hm
  exact ⟨by unfold maxLen; omega, by omega, by omega⟩
theorem tf_tk (ts : List Tk) : ∀ i r, i < ts.length → r < 5 → TF ts (i * 5 + r) = (tkCells ((fun i => ts.getD i nT) i)).getD r undef := fun i r hi hr => by
  have e : ts.getD i nT = ts[i] := by rw [List.getD_eq_getElem?_getD, List.getElem?_eq_getElem hi]; rfl
  show _ = (tkCells (ts.getD i nT)).getD r undef
  rw [e]
  exact tks_at ts i r _ (List.getElem?_eq_getElem hi) hr
theorem own_txs {W : World} {base : Nat} {p : Option Addr} {c : Nat} {ts : List Tk} (h : Own W base 40 5 (.slice p ts.length c) ts.length (TF ts)) : TX W p ts.length (fun i => ts.getD i nT) := by
  rcases TkIn.of_own h with h1 | ⟨b, o, h1, h2, h3⟩
  · exact .inl h1
  · refine .inr ⟨b, o, h1, h2, fun i r hi hr => ?_⟩
    rw [← tf_tk ts i r hi hr, Nat.add_assoc]
    exact h3 _ (by omega)
/-- no two tokens stand at one place -/
theorem scan_rise : ∀ (n : Nat) (s : Bs) (l c cnt : Nat), s.length ≤ n → (scan s l c cnt).1.Pairwise (fun a b => a.line < b.line ∨ a.line = b.line ∧ a.col < b.col) := by
  intro n
  induction n with
  | zero =>
    intro s l c cnt hs
    obtain rfl : s = [] := List.eq_nil_of_length_eq_zero (by omega)
    rw [scan_nil]
    exact List.Pairwise.nil
  | succ n ih =>
    intro s l c cnt hs
    cases s with
    | nil =>
      rw [scan_nil]
      exact List.Pairwise.nil
    | cons x r =>
      simp only [List.length_cons] at hs
      by_cases h1 : x.toNat = 10
      · rw [scan_nl _ _ _ _ _ h1]
        exact ih r _ _ _ (by omega)
      · by_cases h2 : x.toNat = 32 ∨ x.toNat = 9 ∨ x.toNat = 13
        · rw [scan_bl _ _ _ _ _ h2]
          exact ih r _ _ _ (by omega)
        · by_cases h3 : x.toNat = 35
          · rw [scan_cm _ _ _ _ _ h3]
            exact ih _ _ _ _ (by rw [List.length_drop]; omega)
          · have hst : startT x := ⟨h1, fun e => h2 (.inl e), fun e => h2 (.inr (.inl e)), fun e => h2 (.inr (.inr e)), h3⟩
            cases hr : rd (x :: r) with
            | err e =>
              rw [scan_er _ _ _ _ _ _ hst hr]
              exact List.Pairwise.nil
            | ok k u v =>
              by_cases hc : cnt = 16384
              · subst hc
                rw [scan_full _ _ _ _ _ _ _ hst hr]
                exact List.Pairwise.nil
              · rw [scan_ok _ _ _ _ _ _ _ _ hst hr hc]
                have hu := (rd_front _ _ _ _ _ hr).2
                refine List.Pairwise.cons (fun t ht => ?_) (ih _ _ _ _ (by rw [List.length_drop]; omega))
                have := scan_after _ _ _ _ _ (Nat.le_refl _) t ht
                show (l : Int) < t.line ∨ (l : Int) = t.line ∧ (c : Int) < t.col
                omega
theorem scanT_place {src : Bs} {ts : List Tk} (h : scanT src = (ts, none)) {i j : Nat} (hi : i < ts.length) (hj : j < ts.length) (hl : (ts.getD i nT).line = (ts.getD j nT).line) (hc : (ts.getD i nT).col = (ts.getD j nT).col) : i = j := by
  have hl6 := scanT_len h
  have hs : scan src 1 1 0 = (ts, none) := by
    unfold scanT at h
    rw [if_neg (by omega)] at h
    exact h
  have hp := scan_rise _ src 1 1 0 (Nat.le_refl _)
  rw [hs] at hp
  replace hp : ts.Pairwise (fun a b => a.line < b.line ∨ a.line = b.line ∧ a.col < b.col) := hp
  rw [List.pairwise_iff_getElem] at hp
  have e : ∀ k (hk : k < ts.length), ts.getD k nT = ts[k] := fun k hk => by rw [List.getD_eq_getElem?_getD, List.getElem?_eq_getElem hk]; rfl
  rw [e i hi, e j hj] at hl hc
  rcases Nat.lt_trichotomy i j with q | q | q
  · have := hp i j hi hj q; omega
  · exact q
  · have := hp j i hj hi q; omega
end Go.Proofs.YtmekcccmnkgodaaGreatDoor
namespace Go.Proofs.YtmekcccmnkgodaaGreatDoor
open Go.ChangeShapes Go.WideShapes Go.ChangeAt Go.RowKit Go.Stop
set_option linter.unusedVariables false
set_option linter.unusedSimpArgs false
/-! ### what is answered: an error, or a tree -/
inductive Res where
  | er (c l cl : Int)
  | tr (T : List Nd)
def Res.of : Pr (List Nat) → Res
  | .out => .er 0 0 0
  | .bad e => .er e.code e.line e.col
  | .ok s v => .tr (trOf s v)
def bldR (X : Nat → Tk) (n F : Nat) : Res := Res.of (Bld X n F)
def prsR (src : Bs) (F : Nat) : Res := match (scanT src).2 with
  | some er => .er er.code er.line er.col
  | none => bldR (fun i => (scanT src).1.getD i nT) (scanT src).1.length F
def slP : Value → Option Addr
  | .slice p _ _ => p
  | _ => none
def slC : Value → Nat
  | .slice _ _ c => c
  | _ => 0
/-- a node as it lies -/
def nf (T : List Nd) (vs : List Value) (i : Nat) : NdF := ⟨(T.getD i nT1).kind, ⟨(T.getD i nT1).name.toArray⟩, ((T.getD i nT1).num : Int), (T.getD i nT1).op, slP (vs.getD i undef), (T.getD i nT1).kids.length, slC (vs.getD i undef), fun j => (((T.getD i nT1).kids.getD j 0 : Nat) : Int), (T.getD i nT1).line, (T.getD i nT1).col⟩
theorem TR.nat {W : World} {base : Nat} {tp : Option Addr} {tc : Nat} {T : List Nd} {vs : List Value} (h : TR W base (.slice tp T.length tc) T vs) (hk : ∀ d ∈ T, d.kids.length ≤ 16385) : NAt W tp T.length (nf T vs) := by
  obtain ⟨p, c, e, hp⟩ := own_form' h.row
  injection e with e1 _ e2
  subst e1 e2
  rcases hp with h0 | ⟨g, rfl⟩
  · exact .inl h0
  · refine .inr ⟨g, 0, rfl, (own_ltG h.row (b := g) rfl).1, fun i hi => ?_⟩
    have hv : i < vs.length := by rw [h.len]; exact hi
    have hd : T[i]? = some (T.getD i nT1) := by rw [List.getD_eq_getElem?_getD, List.getElem?_eq_getElem hi]; rfl
    have hv2 : vs[i]? = some (vs.getD i undef) := by rw [List.getD_eq_getElem?_getD, List.getElem?_eq_getElem hv]; rfl
    obtain ⟨x0, x1, x2, x3, x4, x5, x6⟩ := own_node h.row hd hv2
    have hO := h.kid i _ _ hd hv2
    obtain ⟨q, d, ev, hq⟩ := own_form' hO
    rw [Nat.zero_add]
    refine ⟨⟨x0, x1, x2, x3, ?_, x5, x6⟩, ?_, ?_⟩
    · rw [x4]
      show some (vs.getD i undef) = some (.slice (slP (vs.getD i undef)) (T.getD i nT1).kids.length (slC (vs.getD i undef)))
      rw [ev]
      rfl
    · show KAt W (slP (vs.getD i undef)) (T.getD i nT1).kids.length _
      rw [ev] at hO ⊢
      rcases hq with h0 | ⟨b, rfl⟩
      · exact .inl h0
      · refine .inr ⟨b, 0, rfl, (own_ltG hO (b := b) rfl).1, fun j hj => ?_⟩
        rw [Nat.zero_add]
        exact hO.cell (j := j) (by omega)
    · have := hk _ (List.mem_of_getElem? hd)
      show (T.getD i nT1).kids.length ≤ _
      omega
/-- how Build and Parse end -/
def ResP (w : World) (R : Res) (e : Ending) (w' : World) : Prop := Below w.heap.size w w' ∧ match R with
  | .er c l cl => ∃ b, e = .returned (.tuple #[.agg #[.slice none 0 0], .iface 56 (.pointer (some ⟨b, 0, none⟩))]) ∧ w'.heap[b]? = some (posObj c l cl)
  | .tr T => ∃ tp tc vs, e = .returned (.tuple #[.agg #[.slice tp T.length tc], .nilIface]) ∧ TR w' w.heap.size (.slice tp T.length tc) T vs ∧ T.length ≤ 16385 ∧ 0 < T.length ∧ ∀ d ∈ T, d.kids.length ≤ 16385
theorem resP_of {X : Nat → Tk} {n F : Nat} {w : World} {e : Ending} {w' : World} (h : BldP w (Bld X n F) e w') : ResP w (bldR X n F) e w' := by
  refine ⟨h.1, ?_⟩
  have h2 := h.2
  unfold bldR
  cases hR : Bld X n F with
  | out => rw [hR] at h2; exact h2.elim
  | bad er =>
    rw [hR] at h2
    obtain ⟨b, h3, h4, h5⟩ := h2
    exact ⟨b, h4, h5⟩
  | ok s v =>
    rw [hR] at h2
    obtain ⟨tp, tc, vs, h3, h4⟩ := h2
    obtain ⟨d, hW⟩ := bld_ok hR
    obtain ⟨n1, t1, e1, -, e2, e3, -⟩ := hW.form
    exact ⟨tp, tc, vs, h3, h4, by show (trOf s v).length ≤ _; rw [e2]; exact hW.len, by show 0 < (trOf s v).length; rw [e2, ← hW.top]; omega, e3⟩
theorem buildR_any {X : Nat → Tk} {n F : Nat} {lp : Option Addr} {lc : Nat} (w : World) (hT : TX w lp n X) (hm : n ≤ maxLen) (hr : ∀ i, i < n → TkR (X i)) (hg : Sp w) (he : Et w) (hF : 20 * n + 10 ≤ F) : Calls Tryz.prog 10 #[.slice lp n lc] w (ResP w (bldR X n F)) := (build_any w hT hm hr hg he hF).mono fun _ _ h => resP_of h
theorem TR.set {w' : World} {base : Nat} {tv : Value} {T : List Nd} {vs : List Value} (h : TR w' base tv T vs) (b : Nat) (hb : b < base) (x : Value) : TR (w'.setCell ⟨b, 0, none⟩ x) base tv T vs := by
  have far : ∀ {t : TypeId} {sz m : Nat} {v : Value} {F : Nat → Value}, Own w' base t sz v m F → ∀ k, v.ownBlock = some k → (w'.setCell ⟨b, 0, none⟩ x).heap[k]? = w'.heap[k]? := fun hO k hk => by
    have := own_ltG hO hk
    exact Below.heap_setCell w' ⟨b, 0, none⟩ x k (by show k ≠ b; omega)
  exact ⟨h.row.far (far h.row), h.len, fun j d v h1 h2 => (h.kid j d v h1 h2).far (far (h.kid j d v h1 h2)), h.apt⟩
theorem TR.low {w' : World} {base base' : Nat} {tv : Value} {T : List Nd} {vs : List Value} (h : TR w' base tv T vs) (hb : base' ≤ base) : TR w' base' tv T vs := ⟨own_low h.row hb, h.len, fun j d v h1 h2 => own_low (h.kid j d v h1 h2) hb, h.apt⟩
set_option maxRecDepth 100000 in
set_option maxHeartbeats 4000000 in
theorem parse_any (src : Bs) (hmx : src.length ≤ maxLen) (F : Nat) (hF : ∀ ts, scanT src = (ts, none) → 20 * ts.length + 10 ≤ F) (w : World) (g : Gr w) (he : Et w) : Calls Tryz.prog 7 #[.string ⟨src.toArray⟩] w (ResP w (prsR src F)) := by
  obtain ⟨ts, er, hR⟩ : ∃ ts er, scanT src = (ts, er) := ⟨_, _, rfl⟩
  have hb0 : Below w.heap.size w (w.alloc (.cells #[.slice none 0 0] 24)) := (Below.refl _ w).alloc (Nat.le_refl _) _
  have h00 := World.alloc_heap_new w (.cells #[.slice none 0 0] 24 (0, 0))
  have hs0 : (w.alloc (.cells #[.slice none 0 0] 24)).heap.size = w.heap.size + 1 := World.size_alloc _ _
  have hS := scan_any src hmx (w.alloc (.cells #[.slice none 0 0] 24)) (g.keep hb0)
  unfold prsR
  rw [hR] at hS ⊢
  have H0 := mhid (And.intro hb0 (And.intro h00 hs0))
  cases er with
  | some er =>
    have HS : Hid (Calls Tryz.prog 9 #[.string ⟨src.toArray⟩] (w.alloc (.cells #[.slice none 0 0] 24)) fun e w' => ∃ b, e = .returned (.tuple #[.slice none 0 0, .iface 56 (.pointer (some ⟨b, 0, none⟩))]) ∧ w'.heap[b]? = some (posObj er.code er.line er.col) ∧ Below (w.heap.size + 1) (w.alloc (.cells #[.slice none 0 0] 24)) w') := hS.mono fun e w' ⟨hb, h⟩ => by
      rcases h with ⟨h0, _⟩ | ⟨er', b, h1, h2, h3⟩
      · cases h0
      · injection h1 with h1
        subst h1
        rw [hs0] at hb
        exact ⟨b, h2, h3, hb⟩
    clear hS hR hb0 h00 hs0
    go_enter Tryz.func7, Tryz.ntmps7
    go_wp2_with (go_at_call 9; (with_reducible refine (HS.out).mono ?_); rintro e w1 ⟨b, rfl, hb1, hb2⟩; have t1 : w1.heap[w.heap.size]? = some (.cells #[.slice none 0 0] 24 (0, 0)) := (hb2.block _ (by omega)).trans H0.out.2.1; have ct := cell_box1 t1; have ft : w1.frozen? ⟨w.heap.size, 0, none⟩ = false := frz_box t1; have HX := mhid (And.intro hb1 (And.intro hb2 t1)); clear hb1 hb2 t1)
    obtain ⟨hb1, hb2, t1⟩ := HX.out
    obtain ⟨hb0, h00, hs0⟩ := H0.out
    have c1 := cell_box1 (setCell_block w1 w.heap.size 0 (.slice none 0 0) t1)
    have hne : b ≠ w.heap.size := by
      rintro rfl
      rw [t1] at hb1
      injection hb1 with hb1
      injection hb1 with _ hb1 _
      exact absurd hb1 (by decide)
    refine bodyPost_ret (v := .tuple #[.agg #[.slice none 0 0], .iface 56 (.pointer (some ⟨b, 0, none⟩))]) (by simp [results, Tryz.results7, go_sem, c1]) rfl ?_
    exact ⟨(hb0.trans (hb2.mono (by omega))).setCell (p := ⟨w.heap.size, 0, none⟩) (Nat.le_refl _) _, b, rfl, (Below.heap_setCell w1 ⟨w.heap.size, 0, none⟩ _ b hne).trans hb1⟩
  | none =>
    dsimp only
    have hn : ts.length ≤ 16384 := by
      have := scanT_count src
      rw [hR] at this
      exact this
    have HB : Hid (∀ W p c, Below w.heap.size w W → TX W p ts.length (fun i => ts.getD i nT) → Calls Tryz.prog 10 #[.slice p ts.length c] W (ResP W (bldR (fun i => ts.getD i nT) ts.length F))) := fun W p c hW hT => buildR_any W hT (by unfold maxLen; omega) (scanT_tkR hR) (g.keep hW).sp (he.keep hW) (hF ts hR)
    have HS : Hid (Calls Tryz.prog 9 #[.string ⟨src.toArray⟩] (w.alloc (.cells #[.slice none 0 0] 24)) fun e w' => ∃ p c, e = .returned (.tuple #[.slice p ts.length c, .nilIface]) ∧ TX w' p ts.length (fun i => ts.getD i nT) ∧ Below (w.heap.size + 1) (w.alloc (.cells #[.slice none 0 0] 24)) w') := hS.mono fun e w' ⟨hb, h⟩ => by
      rcases h with ⟨_, v, rfl, ho⟩ | ⟨_, b, h0, _⟩
      · have hO := own_tks.2 ho
        obtain ⟨p, c, rfl, _⟩ := own_form' hO
        rw [hs0] at hb
        exact ⟨p, c, rfl, own_txs hO, hb⟩
      · cases h0
    generalize bldR (fun i => ts.getD i nT) ts.length F = R at HB ⊢
    generalize ts.length = n at *
    clear hS hR hb0 h00 hs0
    cases R with
    | er c l cl =>
      go_enter Tryz.func7, Tryz.ntmps7
      go_wp2_with (first
        | (go_at_call 9; (with_reducible refine (HS.out).mono ?_); rintro e w1 ⟨p, c, rfl, ht, hb⟩; have HT := mhid (And.intro ht (And.intro hb (H0.out.1.trans (hb.mono (by omega))))); clear ht hb)
        | (go_at_call 10; (with_reducible refine (HB.out _ _ _ HT.out.2.2 HT.out.1).mono ?_); rintro e w2 ⟨hb2, b, rfl, hb1⟩; have t0 := (HT.out.2.1.block _ (by omega)).trans H0.out.2.1; have t1 : w2.heap[w.heap.size]? = some (.cells #[.slice none 0 0] 24 (0, 0)) := (hb2.block _ (Array.getElem?_eq_some_iff.1 t0).1).trans t0; have ct := cell_box1 t1; have ft : w2.frozen? ⟨w.heap.size, 0, none⟩ = false := frz_box t1; have HX := mhid (And.intro hb1 (And.intro hb2 t1)); clear hb1 hb2 t1 t0))
      obtain ⟨hb1, hb2, t1⟩ := HX.out
      obtain ⟨hb0, h00, hs0⟩ := H0.out
      have c1 := cell_box1 (setCell_block w2 w.heap.size 0 (.slice none 0 0) t1)
      have hne : b ≠ w.heap.size := by
        rintro rfl
        rw [t1] at hb1
        injection hb1 with hb1
        injection hb1 with _ hb1 _
        exact absurd hb1 (by decide)
      refine bodyPost_ret (v := .tuple #[.agg #[.slice none 0 0], .iface 56 (.pointer (some ⟨b, 0, none⟩))]) (by simp [results, Tryz.results7, go_sem, c1]) rfl ?_
      exact ⟨(HT.out.2.2.trans (hb2.mono HT.out.2.2.size)).setCell (p := ⟨w.heap.size, 0, none⟩) (Nat.le_refl _) _, b, rfl, (Below.heap_setCell w2 ⟨w.heap.size, 0, none⟩ _ b hne).trans hb1⟩
    | tr T =>
      go_enter Tryz.func7, Tryz.ntmps7
      go_wp2_with (first
        | (go_at_call 9; (with_reducible refine (HS.out).mono ?_); rintro e w1 ⟨p, c, rfl, ht, hb⟩; have HT := mhid (And.intro ht (And.intro hb (H0.out.1.trans (hb.mono (by omega))))); clear ht hb)
        | (go_at_call 10; (with_reducible refine (HB.out _ _ _ HT.out.2.2 HT.out.1).mono ?_); rintro e w2 ⟨hb2, tp, tc, vs, rfl, hTR, hk⟩; have t0 := (HT.out.2.1.block _ (by omega)).trans H0.out.2.1; have t1 : w2.heap[w.heap.size]? = some (.cells #[.slice none 0 0] 24 (0, 0)) := (hb2.block _ (Array.getElem?_eq_some_iff.1 t0).1).trans t0; have ct := cell_box1 t1; have ft : w2.frozen? ⟨w.heap.size, 0, none⟩ = false := frz_box t1; have HX := mhid (And.intro hTR (And.intro hk (And.intro hb2 t1))); clear hTR hk hb2 t1 t0))
      obtain ⟨hTR, hk, hb2, t1⟩ := HX.out
      obtain ⟨hb0, h00, hs0⟩ := H0.out
      have c1 := cell_box1 (setCell_block w2 w.heap.size 0 (.slice tp T.length tc) t1)
      refine bodyPost_ret (v := .tuple #[.agg #[.slice tp T.length tc], .nilIface]) (by simp [results, Tryz.results7, go_sem, c1]) rfl ?_
      have hsz := HT.out.2.1.size
      rw [hs0] at hsz
      exact ⟨(HT.out.2.2.trans (hb2.mono HT.out.2.2.size)).setCell (p := ⟨w.heap.size, 0, none⟩) (Nat.le_refl _) _, tp, tc, vs, rfl, (hTR.set w.heap.size (by omega) _).low (by omega), hk⟩
end Go.Proofs.YtmekcccmnkgodaaGreatDoor
namespace Go.Proofs.YtmekcccmnkgodaaGreatDoor
open Go.ChangeShapes Go.WideShapes Go.ChangeAt Go.RowKit
set_option linter.unusedVariables false
set_option linter.unusedSimpArgs false
/-! ### errors as they are seen -/
def seeK : Res → Int
  | .er _ _ _ => 2
  | .tr _ => 0
def seeC : Res → Int
  | .er c _ _ => c
  | .tr _ => 0
def seeL : Res → Int
  | .er _ l _ => l
  | .tr _ => 0
def seeO : Res → Int
  | .er _ _ o => o
  | .tr _ => 0
def seeA (k c a b : Int) : Value := .agg #[.int .i64 k, .int .i64 c, .int .i64 a, .int .i64 b, .int .u64 0, .int .i64 0, .int .u64 0]
/-- the error beside an answer -/
def EvAt (W : World) (ev : Value) : Res → Prop
  | .er c l cl => ∃ b, ev = .iface 56 (.pointer (some ⟨b, 0, none⟩)) ∧ W.heap[b]? = some (posObj c l cl)
  | .tr _ => ev = .nilIface
theorem EvAt.below {W W' : World} {ev : Value} {R : Res} (h : EvAt W ev R) (hb : Below W.heap.size W W') : EvAt W' ev R := by
  cases R with
  | er c l cl =>
    obtain ⟨b, h1, h2⟩ := h
    exact ⟨b, h1, (hb.block b (Array.getElem?_eq_some_iff.1 h2).1).trans h2⟩
  | tr T => exact h
theorem ResP.ev {w : World} {R : Res} {e : Ending} {w' : World} (h : ResP w R e w') : ∃ tp tm tc ev, e = .returned (.tuple #[.agg #[.slice tp tm tc], ev]) ∧ EvAt w' ev R ∧ Below w.heap.size w w' := by
  cases R with
  | er c l cl =>
    obtain ⟨hb, b, h1, h2⟩ := h
    exact ⟨_, _, _, _, h1, ⟨b, rfl, h2⟩, hb⟩
  | tr T =>
    obtain ⟨hb, tp, tc, vs, h1, _⟩ := h
    exact ⟨_, _, _, _, h1, rfl, hb⟩
set_option maxRecDepth 100000 in
theorem see_nil (w : World) : Calls Tryz.prog 8 #[.nilIface] w fun e w' => e = .returned (seeA 0 0 0 0) ∧ Below w.heap.size w w' := by
  have hg0 := World.alloc_heap_new w (.cells #[.int .i64 0, .int .i64 0, .int .i64 0, .int .i64 0, .int .u64 0, .int .i64 0, .int .u64 0] 33)
  obtain ⟨⟨k0, k1, k2, k3, k4, k5, k6⟩, f0, f1, f2, f3, f4, f5, f6⟩ := cells7 hg0
  have hb0 : Below w.heap.size w (w.alloc (.cells #[.int .i64 0, .int .i64 0, .int .i64 0, .int .i64 0, .int .u64 0, .int .i64 0, .int .u64 0] 33)) := (Below.refl _ w).alloc (Nat.le_refl _) _
  go_enter Tryz.func8, Tryz.ntmps8
  go_wp2
  refine bodyPost_ret (v := seeA 0 0 0 0) (by simp [results, Tryz.results8, go_sem, seeA, k0, k1, k2, k3, k4, k5, k6]; try rfl) rfl ?_
  exact ⟨rfl, hb0⟩
/-- See of what Build and Parse answer -/
theorem see_any {R : Res} {ev : Value} (w : World) (h : EvAt w ev R) : Calls Tryz.prog 8 #[ev] w fun e w' => e = .returned (seeA (seeK R) (seeC R) (seeL R) (seeO R)) ∧ Below w.heap.size w w' := by
  cases R with
  | er c l cl =>
    obtain ⟨b, rfl, h2⟩ := h
    exact see_pos c l cl b w h2
  | tr T =>
    obtain rfl : ev = .nilIface := h
    exact see_nil w
end Go.Proofs.YtmekcccmnkgodaaGreatDoor
