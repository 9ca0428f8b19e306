import Derived.Test.YtagchghhpggnlaaGreatZQ0
import Derived.Test.YtagchghhpggnlaaGreatZV5
import Derived.Test.YtagchghhpggnlaaGreatZG1
import Derived.BigQuiet
namespace Go.Proofs.YtagchghhpggnlaaGreat
open Go.ChangeShapes Go.WideShapes Go.ChangeAt Go.RowKit
set_option linter.unusedVariables false

def inC (op a b : Nat → Int) (x : Nat) : Value := .int .i64 (if x % 3 = 0 then op (x / 3) else if x % 3 = 1 then a (x / 3) else b (x / 3))
theorem inC_one (op a b : Nat → Int) (x : Nat) : (inC op a b x).oneCell' = true := rfl
theorem IAt.cellsAt {w : World} {g o n : Nat} {op a b : Nat → Int} (hc : ∀ j, j < n → w.cell? ⟨g, o + j * 3, none⟩ = some (.int .i64 (op j)) ∧ w.cell? ⟨g, o + j * 3 + 1, none⟩ = some (.int .i64 (a j)) ∧ w.cell? ⟨g, o + j * 3 + 2, none⟩ = some (.int .i64 (b j))) : ∀ x, x < n * 3 → w.cell? ⟨g, o + x, none⟩ = some (inC op a b x) := fun x hx => by
  obtain ⟨i, r, hr, rfl⟩ : ∃ i r, r < 3 ∧ x = i * 3 + r := ⟨x / 3, x % 3, by omega, by omega⟩
  obtain ⟨c0, c1, c2⟩ := hc i (by omega)
  have e1 : (i * 3 + r) / 3 = i := by omega
  have e2 : (i * 3 + r) % 3 = r := by omega
  unfold inC
  rw [e1, e2, ← Nat.add_assoc]
  match r, hr with
  | 0, _ => exact c0
  | 1, _ => exact c1
  | 2, _ => exact c2
theorem iat_own {W : World} {base g n c : Nat} {op a b : Nat → Int} (h : Own W base 121 3 (.slice (some ⟨g, 0, none⟩) n c) n (inC op a b)) : IAt W (some ⟨g, 0, none⟩) n op a b := by
  obtain ⟨cur, h1, _⟩ := h.block
  refine .inr ⟨g, 0, rfl, (Array.getElem?_eq_some_iff.1 h1).1, fun j hj => ?_⟩
  have e0 := h.cell (j := j * 3) (by omega)
  have e1 := h.cell (j := j * 3 + 1) (by omega)
  have e2 := h.cell (j := j * 3 + 2) (by omega)
  unfold inC at e0 e1 e2
  rw [show (j * 3) % 3 = 0 by omega, show (j * 3) / 3 = j by omega, if_pos rfl] at e0
  rw [show (j * 3 + 1) % 3 = 1 by omega, show (j * 3 + 1) / 3 = j by omega, if_neg (by decide), if_pos rfl] at e1
  rw [show (j * 3 + 2) % 3 = 2 by omega, show (j * 3 + 2) / 3 = j by omega, if_neg (by decide), if_neg (by decide)] at e2
  rw [Nat.zero_add]
  exact ⟨e0, e1, e2⟩
theorem kat_cells {W : World} {g n : Nat} {K : Nat → Int} (h : W.heap[g]? = some (.cells (intsL K n).toArray 3 (0, 0))) : KAt W (some ⟨g, 0, none⟩) n K := by
  refine .inr ⟨g, 0, rfl, (Array.getElem?_eq_some_iff.1 h).1, fun j hj => ?_⟩
  unfold World.cell?
  rw [h]
  have := intsL_get (K := K) hj
  simpa using this
theorem own_of {W : World} {base : Nat} {t : TypeId} {s m : Nat} {v : Value} {xs : List Value} (h : W.ownsRow base t s v m xs) : Own W base t s v m (fun j => xs.getD j undef) := by
  unfold Own
  have h2 := cellsF_of xs
  rw [h.1] at h2
  rw [← h2]
  exact h
theorem infoIns : (Tryz.prog.info? 121).map (fun i => (i.zero, i.size, i.bytes)) = some (some (.agg #[.int .i64 0, .int .i64 0, .int .i64 0]), 3, 24) := by kernel_rfl
/-- a program lies there -/
def PAt (W : World) (P : Pg) (v : PgV) : Prop := IAt W v.cp P.n P.op P.a P.b ∧ KAt W v.ep P.m P.en
theorem PAt.below {W W' : World} {P : Pg} {v : PgV} (h : PAt W P v) (hb : Below W.heap.size W W') : PAt W' P v := ⟨h.1.below hb, h.2.below hb⟩
def pv (P : Pg) (v : PgV) : Value := .agg #[.int .i64 P.words, .int .i64 P.locals, .slice v.cp P.n v.cc, .slice v.ep P.m v.ec]
def roomyP (P : Pg) : Prop := P.n * 24 ≤ 140737488351232 ∧ P.m ≤ 17592186044416

/-! ### the same again -/
theorem neq_ins (x y z : Int) (W : World) : (binOp .neq 121 (.agg #[.int .i64 x, .int .i64 y, .int .i64 z]) (.agg #[.int .i64 x, .int .i64 y, .int .i64 z])).run Tryz.prog W = .ok (.bool false) W := by
  go_simp
attribute [-go_sem] run_eql_struct in
set_option maxRecDepth 100000 in
set_option maxHeartbeats 1000000 in
theorem sameCode_yes (p q : Option Addr) (n c d : Nat) (op a b : Nat → Int) (hn : n ≤ 17592186044416) (w : World) (hp : IAt w p n op a b) (hq : IAt w q n op a b) :
    Calls Tryz.prog 135 #[.slice p n c, .slice q n d] w fun e w' => e = .returned (.bool true) ∧ Below w.heap.size w w' := by
  have HE := neq_ins
  go_enter Tryz.func135, Tryz.ntmps135
  go_wp2
  go_loopw [13] (fun v wr => ∃ i : Nat, v = .int .i64 i ∧ i ≤ n ∧ Below w.heap.size w wr) (fun v _ => n - (intOf v).toNat)
  case atStart => exact ⟨0, rfl, Nat.zero_le _, Below.refl _ _⟩
  case round =>
    obtain ⟨i, rfl, hi, hbel⟩ := hrel
    by_cases hlt : i < n
    · obtain h0 | ⟨b1, o1, hp1, hl1, hc1⟩ := hp.below hbel
      · omega
      obtain h0 | ⟨b2, o2, hp2, hl2, hc2⟩ := hq.below hbel
      · omega
      obtain ⟨x0, x1, x2⟩ := hc1 i hlt
      obtain ⟨y0, y1, y2⟩ := hc2 i hlt
      have dl : decide ((i : Int) < n) = true := decide_eq_true (by omega)
      have hm := meas hlt
      have i0 : (0 : Int) ≤ (i : Int) := by omega
      have i1 : (i : Int) < (n : Int) := by omega
      subst hp1 hp2
      clear hc1 hc2 hl1 hl2
      go_wp2
      go_quiet (fail)
      go_wp2
      exact ⟨⟨i + 1, rfl, hlt, hbel.trans (below_drewNq _ _ _)⟩, hm⟩
    · have dl : decide ((i : Int) < n) = false := decide_eq_false (by omega)
      clear hp hq
      go_wp2
      go_ret
      exact ⟨rfl, hbel⟩
set_option maxRecDepth 100000 in
set_option maxHeartbeats 1000000 in
theorem sameProgram_yes (P : Pg) (v v' : PgV) (w : World) (h : PAt w P v) (h' : PAt w P v') (hs : roomyP P) :
    Calls Tryz.prog 99 #[.agg #[.int .i64 P.words, .int .i64 P.locals, .slice v.cp P.n v.cc, .slice v.ep P.m v.ec], .agg #[.int .i64 P.words, .int .i64 P.locals, .slice v'.cp P.n v'.cc, .slice v'.ep P.m v'.ec]] w fun e w' => e = .returned (.bool true) ∧ Below w.heap.size w w' := by
  obtain ⟨hs1, hs2⟩ := hs
  have hb : Below w.heap.size w ((w.alloc (.cells #[.int .i64 P.words, .int .i64 P.locals, .slice v.cp P.n v.cc, .slice v.ep P.m v.ec] 93)).alloc (.cells #[.int .i64 P.words, .int .i64 P.locals, .slice v'.cp P.n v'.cc, .slice v'.ep P.m v'.ec] 93)) := ((Below.refl _ w).alloc (Nat.le_refl _) _).alloc (by simp) _
  obtain ⟨wp, hwp⟩ : ∃ wp, (w.alloc (.cells #[.int .i64 P.words, .int .i64 P.locals, .slice v.cp P.n v.cc, .slice v.ep P.m v.ec] 93)).alloc (.cells #[.int .i64 P.words, .int .i64 P.locals, .slice v'.cp P.n v'.cc, .slice v'.ep P.m v'.ec] 93) = wp := ⟨_, rfl⟩
  have hbox1 : wp.heap[w.heap.size]? = some (.cells #[.int .i64 P.words, .int .i64 P.locals, .slice v.cp P.n v.cc, .slice v.ep P.m v.ec] 93 (0, 0)) := by
    rw [← hwp, Below.heap_alloc _ _ _ (by simp)]
    exact World.alloc_heap_new w _
  have hbox2 : wp.heap[w.heap.size + 1]? = some (.cells #[.int .i64 P.words, .int .i64 P.locals, .slice v'.cp P.n v'.cc, .slice v'.ep P.m v'.ec] 93 (0, 0)) := by
    rw [← hwp]
    have := World.alloc_heap_new (w.alloc (.cells #[.int .i64 P.words, .int .i64 P.locals, .slice v.cp P.n v.cc, .slice v.ep P.m v.ec] 93)) (.cells #[.int .i64 P.words, .int .i64 P.locals, .slice v'.cp P.n v'.cc, .slice v'.ep P.m v'.ec] 93)
    rwa [World.size_alloc] at this
  have hszp : w.heap.size + 1 < wp.heap.size := by rw [← hwp]; simp
  rw [hwp] at hb
  have HC := sameCode_yes v.cp v'.cp P.n v.cc v'.cc P.op P.a P.b (by omega) wp (h.1.below hb) (h'.1.below hb)
  have hk := h.2.below hb
  have hk' := h'.2.below hb
  have HB : Hid ((w.alloc (.cells #[.int .i64 P.words, .int .i64 P.locals, .slice v.cp P.n v.cc, .slice v.ep P.m v.ec] 93)).alloc (.cells #[.int .i64 P.words, .int .i64 P.locals, .slice v'.cp P.n v'.cc, .slice v'.ep P.m v'.ec] 93) = wp) := hwp
  clear hwp h h'
  go_enter Tryz.func99, Tryz.ntmps99
  go_wp2_with (first | (go_at_call 135; rw [HB.out]; (with_reducible refine HC.mono ?_); rintro e w1 ⟨rfl, z1⟩; obtain ⟨a0, a1, a2, a3⟩ := cells4 ((z1.block _ (by omega)).trans hbox1); obtain ⟨b0, b1, b2, b3⟩ := cells4 ((z1.block _ (by omega)).trans hbox2); have HI := sameInts_any v.ep v'.ep P.m P.m v.ec v'.ec P.en P.en hs2 w1 (hk.below z1) (hk'.below z1); rw [decide_eq_true rfl, sameF_yes (fun _ _ => rfl)] at HI) | (go_at_call 136; (with_reducible refine HI.mono ?_); rintro e w2 ⟨rfl, z2⟩))
  go_ret
  exact ⟨rfl, (hb.trans (z1.mono hb.size)).trans (z2.mono (Nat.le_trans hb.size z1.size))⟩
end Go.Proofs.YtagchghhpggnlaaGreat
