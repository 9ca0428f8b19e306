import Derived.Test.YtieanhmkcbcdkaaM29
namespace Go.Proofs.Ytieanhmkcbcdkaa
open Go.ChangeShapes Go.WideShapes Go.ChangeAt Go.RowKit
set_option linter.unusedVariables false
set_option linter.unusedSimpArgs false

def fuelC (cl : Cl) (f : Int) : Cl := { cl with fuel := f }
theorem runP_fuel (P : Pg) (cl : Cl) (f : Int) : ∀ (k i : Nat) (M : Mc), runP P (fuelC cl f) k i M = runP P cl k i M
  | 0, i, M => by rw [runP_zero, runP_zero]
  | k + 1, i, M => by
    by_cases h0 : P.op i = 0
    · rw [runP_stop h0, runP_stop h0]
    by_cases h1 : P.op i = 35
    · rw [runP_jump h1, runP_jump h1]; exact runP_fuel P cl f k _ _
    by_cases h2 : P.op i = 36
    · rw [runP_ifz h2, runP_ifz h2]; exact runP_fuel P cl f k _ _
    have h3 : P.op i ≠ 0 ∧ P.op i ≠ 35 ∧ P.op i ≠ 36 := ⟨h0, h1, h2⟩
    by_cases hf : doF cl (usM M) (P.op i) (P.a i) (P.b i) = 0
    · rw [runP_go h3 hf, runP_go (cl := fuelC cl f) h3 hf]
      exact runP_fuel P cl f k _ _
    · rw [runP_fault h3 hf, runP_fault (cl := fuelC cl f) h3 hf]; rfl
def efShort (n : Nat) (K : Nat → Int) (d s f : Int) : Ef := ⟨200, n, K, d, s, 0, fun _ => undef, f⟩
theorem fits_fuel {P : Pg} {cl : Cl} {n : Nat} {f : Int} (h : fitsB P cl n = true) (hf : 0 ≤ f ∧ f ≤ 4096) : fitsB P (fuelC cl f) n = true := by
  obtain ⟨⟨k1, k2⟩, ⟨k3, k4⟩, ⟨k5, k6⟩, k7, k8, k9⟩ := fitsB_yes h
  unfold fitsB fuelC
  simp only [decide_eq_true k1, decide_eq_true k2, decide_eq_true k3, decide_eq_true k4, decide_eq_true k5, decide_eq_true k6, decide_eq_true k7, decide_eq_true hf.1, decide_eq_true hf.2]
  rfl
theorem effP_run {P : Pg} {cl : Cl} {n : Nat} {K : Nat → Int} {d s : Int} (hz : dcode P P.m = 0) (hf : fitsB P cl n = true) : effP P cl n K d s = if P.en cl.kind.toNat = -1 then ⟨0, n, K, d, s, 0, fun _ => undef, 0⟩ else if (runOf P cl K d s).1 ≠ 0 then ⟨(runOf P cl K d s).1, n, K, d, s, 0, fun _ => undef, (runOf P cl K d s).2.used⟩ else ⟨0, n, (runOf P cl K d s).2.wd, (runOf P cl K d s).2.dice, (runOf P cl K d s).2.sent, (runOf P cl K d s).2.on, (runOf P cl K d s).2.oF, (runOf P cl K d s).2.used⟩ := by
  unfold effP
  rw [if_neg (by rw [hz]; simp), if_neg (by rw [hf]; simp)]
theorem fuel_eff {P : Pg} {cl : Cl} {n : Nat} {K : Nat → Int} {d s f : Int} (hz : dcode P P.m = 0) (hf : fitsB P cl n = true) (hff : 0 ≤ f ∧ f ≤ 4096) :
    ((effP P cl n K d s).code = 200 → f ≤ cl.fuel → effP P (fuelC cl f) n K d s = efShort n K d s f) ∧ ((effP P cl n K d s).code ≠ 200 → (f < (effP P cl n K d s).used → effP P (fuelC cl f) n K d s = efShort n K d s f) ∧ ((effP P cl n K d s).used ≤ f → effP P (fuelC cl f) n K d s = effP P cl n K d s)) := by
  have hf2 := fits_fuel hf hff
  have hfu := (fitsB_yes hf).2.2.2.2.1
  have hT := taken_eff (P := P) (cl := cl) (n := n) (K := K) (d := d) (s := s) hz hf
  have hR2 : runOf P (fuelC cl f) K d s = runP P cl f.toNat (P.en cl.kind.toNat).toNat (newM K d s (.slice none 0 0)) := runP_fuel P cl f f.toNat _ _
  have hR : runOf P cl K d s = runP P cl cl.fuel.toNat (P.en cl.kind.toNat).toNat (newM K d s (.slice none 0 0)) := rfl
  have hM0 : (newM K d s (.slice none 0 0)).used = 0 := rfl
  have hX := effP_run (K := K) (d := d) (s := s) hz hf
  have hY := effP_run (K := K) (d := d) (s := s) hz hf2
  have hk : (fuelC cl f).kind = cl.kind := rfl
  rw [hk] at hY
  have hu := hT.used
  generalize effP P cl n K d s = X at *
  generalize effP P (fuelC cl f) n K d s = Y at *
  by_cases hen : P.en cl.kind.toNat = -1
  · rw [if_pos hen] at hX hY
    subst hX hY
    refine ⟨fun h => (by cases h), fun _ => ⟨fun h => ?_, fun _ => rfl⟩⟩
    have h' : f < 0 := h
    omega
  · rw [if_neg hen] at hX hY
    have hl := runP_less P cl f.toNat (P.en cl.kind.toNat).toNat (newM K d s (.slice none 0 0)) cl.fuel.toNat
    have hm := runP_more P cl cl.fuel.toNat (P.en cl.kind.toNat).toNat (newM K d s (.slice none 0 0)) f.toNat
    rw [← hR2, ← hR, hM0] at hl hm
    clear hR hR2
    generalize runOf P (fuelC cl f) K d s = R2 at *
    generalize runOf P cl K d s = R at *
    have short : (R2.1 = 200 ∧ R2.2.used = 0 + (f.toNat : Int)) → Y = efShort n K d s f := fun ⟨e1, e2⟩ => by
      rw [if_pos (by rw [e1]; decide), e1, e2] at hY
      rw [hY]
      unfold efShort
      congr 1
      omega
    by_cases h0 : R.1 = 0
    · rw [if_neg (by simpa using h0)] at hX
      have hxu : X.used = R.2.used := by rw [hX]
      have hxc : X.code = 0 := by rw [hX]
      refine ⟨fun h => (by omega), fun _ => ⟨fun h => short (hl (.inl (by omega))), fun h => ?_⟩⟩
      rw [hm (by rw [h0]; decide) (by omega), if_neg (by simpa using h0)] at hY
      rw [hX, hY]
    · rw [if_pos h0] at hX
      have hxu : X.used = R.2.used := by rw [hX]
      have hxc : X.code = R.1 := by rw [hX]
      refine ⟨fun h hle => short (hl (.inr ⟨by omega, by omega⟩)), fun hne => ⟨fun h => short (hl (.inl (by omega))), fun h => ?_⟩⟩
      rw [hm (by omega) (by omega), if_pos h0] at hY
      rw [hX, hY]
theorem EInv.sh {P : Pg} {cl : Cl} {s0 : Int} {E : Ef} (h : EInv P cl s0 E) : EvSh E.on E.oF := fun i hi => by
  obtain ⟨D, T, k, X, e0, e1, e2, e3, e4, e5, _⟩ := h.ev i hi
  exact ⟨_, _, _, _, _, _, e0, e1, e2, e3, e4, e5⟩
set_option maxRecDepth 100000 in
set_option maxHeartbeats 1000000 in
theorem copyState_any (p : Option Addr) (n c : Nat) (K : Nat → Int) (d s : Int) (w : World) (hn : n ≤ 17592186044416) (h : KAt w p n K) :
    Calls Try.prog 20 #[.agg #[.slice p n c, .int .u64 d, .int .u64 s]] w fun e w' => e = .returned (.agg #[.slice (some ⟨w.heap.size + 2, 0, none⟩) n n, .int .u64 d, .int .u64 s]) ∧ KAt w' (some ⟨w.heap.size + 2, 0, none⟩) n K ∧ Below w.heap.size w w' := by
  obtain ⟨w1, hw1⟩ : ∃ w1, (w.alloc (.cells #[.slice p n c, .int .u64 d, .int .u64 s] 33)).alloc (.cells #[.slice none 0 0, .int .u64 0, .int .u64 0] 33) = w1 := ⟨_, rfl⟩
  have hb1 : Below w.heap.size w w1 := by rw [← hw1]; exact ((Below.refl _ w).alloc (Nat.le_refl _) _).alloc (by simp) _
  have hbox : w1.heap[w.heap.size]? = some (.cells #[.slice p n c, .int .u64 d, .int .u64 s] 33 (0, 0)) := by
    rw [← hw1, Below.heap_alloc _ _ _ (by simp)]
    exact World.alloc_heap_new w _
  have hres : w1.heap[w.heap.size + 1]? = some (.cells #[.slice none 0 0, .int .u64 0, .int .u64 0] 33 (0, 0)) := by
    rw [← hw1]
    have := World.alloc_heap_new (w.alloc (.cells #[.slice p n c, .int .u64 d, .int .u64 s] 33)) (.cells #[.slice none 0 0, .int .u64 0, .int .u64 0] 33)
    rwa [World.size_alloc] at this
  have hsz : w1.heap.size = w.heap.size + 2 := by rw [← hw1]; simp
  have HC := copyWords_any p n c K w1 hn (h.below hb1)
  rw [hsz] at HC
  obtain ⟨a0, a1, a2⟩ := cells3' hbox
  have HW : Hid ((w.alloc (.cells #[.slice p n c, .int .u64 d, .int .u64 s] 33)).alloc (.cells #[.slice none 0 0, .int .u64 0, .int .u64 0] 33) = w1) := hw1
  clear hw1 h
  go_enter Try.func20, Try.ntmps20
  go_wp2_with (go_at_call 33; rw [HW.out]; (with_reducible refine HC.mono ?_); rintro e w2 ⟨rfl, hO, hb2, hlt2⟩; have hbox2 := (hb2.block _ (by omega)).trans hbox; have hres2 := (hb2.block _ (by omega)).trans hres; obtain ⟨b0, b1, b2⟩ := cells3' hbox2; obtain ⟨r0, r1, r2⟩ := cells3' hres2; have bf0 := frz' hbox2 0; have rf0 := frz' hres2 0; have rf1 := frz' hres2 1; have rf2 := frz' hres2 2)
  generalize hWF : (World.setCell (World.setCell (World.setCell (World.setCell _ _ _) _ _) _ _) _ _) = wF
  have hwF : wF = (((w2.setCell ⟨w.heap.size, 0, none⟩ (.slice (some ⟨w.heap.size + 2, 0, none⟩) n n)).setCell ⟨w.heap.size + 1, 0, none⟩ (.slice (some ⟨w.heap.size + 2, 0, none⟩) n n)).setCell ⟨w.heap.size + 1, 1, none⟩ (.int .u64 d)).setCell ⟨w.heap.size + 1, 2, none⟩ (.int .u64 s) := hWF.symm
  clear hWF
  have hF : wF.heap[w.heap.size + 1]? = some (.cells #[.slice (some ⟨w.heap.size + 2, 0, none⟩) n n, .int .u64 d, .int .u64 s] 33 (0, 0)) := by
    have h0 : (w2.setCell ⟨w.heap.size, 0, none⟩ (.slice (some ⟨w.heap.size + 2, 0, none⟩) n n)).heap[w.heap.size + 1]? = some (.cells #[.slice none 0 0, .int .u64 0, .int .u64 0] 33 (0, 0)) := (Below.heap_setCell _ _ _ _ (by show w.heap.size + 1 ≠ w.heap.size; omega)).trans hres2
    rw [hwF, setCell_block _ _ _ _ (setCell_block _ _ _ _ (setCell_block _ _ _ _ h0))]
    rfl
  have far : ∀ k, k ≠ w.heap.size → k ≠ w.heap.size + 1 → wF.heap[k]? = w2.heap[k]? := fun k h1 h2 => by
    rw [hwF, Below.heap_setCell _ _ _ _ h2, Below.heap_setCell _ _ _ _ h2, Below.heap_setCell _ _ _ _ h2, Below.heap_setCell _ _ _ _ h1]
  have hbF : Below w.heap.size w wF := by
    rw [hwF]
    exact ((((hb1.trans (hb2.mono (by omega))).setCell (p := ⟨w.heap.size, 0, none⟩) (Nat.le_refl _) _).setCell (p := ⟨w.heap.size + 1, 0, none⟩) (Nat.le_succ _) _).setCell (p := ⟨w.heap.size + 1, 1, none⟩) (Nat.le_succ _) _).setCell (p := ⟨w.heap.size + 1, 2, none⟩) (Nat.le_succ _) _
  obtain ⟨d0, d1, d2⟩ := cells3' hF
  refine bodyPost_ret (v := .agg #[.slice (some ⟨w.heap.size + 2, 0, none⟩) n n, .int .u64 d, .int .u64 s]) (by simp [results, Try.results20, go_sem, d0, d1, d2]; try rfl) rfl ?_
  have hrow := (far (w.heap.size + 2) (by omega) (by omega)).trans hO
  refine ⟨rfl, .inr ⟨_, 0, rfl, (Array.getElem?_eq_some_iff.1 hrow).1, fun j hj => ?_⟩, hbF⟩
  have := cell_of hrow (0 + j)
  rw [this, Nat.zero_add]
  have := intsL_get (K := K) hj
  simpa using this
end Go.Proofs.Ytieanhmkcbcdkaa
