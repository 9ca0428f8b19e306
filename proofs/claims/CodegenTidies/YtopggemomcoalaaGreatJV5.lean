import Derived.Test.YtopggemomcoalaaGreatJV4
import Derived.Deep.RegionHeld3
import Derived.Deep.RegionLaw
import Derived.Deep.OwnRows
namespace Go.Proofs.YtopggemomcoalaaGreat
open Go.ChangeShapes Go.WideShapes Go.ChangeAt Go.RowKit
set_option linter.unusedVariables false

theorem step_make_row {P : Program} {ops : Array Oper} {o : Oper} {a : Act} {w : World} {K : Act → World → Prop} {Q : Exit → Act → World → Prop} {E : Prop}
    (hg : o.guard = none) (l c : Operand) (t : TypeId) (hop : o.op = Op.makeSlice t l c)
    (e : TypeId) (i : TypeInfo) (z : Value) (ht : P.underlying t = some (.slice e)) (hi : P.info? e = some i) (hz : i.zero = some z) (hsize : i.size = 1) (hz1 : z.cells = #[z])
    (kl kc : IntKind) (n : Nat) (hl : a.eval l = .int kl (n : Int)) (hc : a.eval c = .int kc (n : Int)) (hbytes : i.bytes * n ≤ 281474976710656) (h63 : n ≤ 9223372036854775807)
    (hK : K (a.put o.dst (.slice (some ⟨w.heap.size, 0, none⟩) n n)) (w.alloc (.cells (madeCells #[z] n) e))) :
    if Region.wanted o (yielded ops a.tmps) = true then Oper.wp P o a w K Q else E := by
  have hw : Region.wanted o (yielded ops a.tmps) = true := by simp [Region.wanted, hg]
  rw [if_pos hw]
  have hrun := run_make_row (P := P) t e i z ht hi hz hsize hz1 kl kc n hbytes h63 w
  unfold Oper.wp
  simp [execOp, hop, hl, hc, hrun, Result.andThen]
  exact hK

theorem cells4 {W : World} {b : Nat} {c0 c1 c2 c3 : Value} {t : TypeId} (h : W.heap[b]? = some (.cells #[c0, c1, c2, c3] t (0, 0))) : W.cell? ⟨b, 0, none⟩ = some c0 ∧ W.cell? ⟨b, 1, none⟩ = some c1 ∧ W.cell? ⟨b, 2, none⟩ = some c2 ∧ W.cell? ⟨b, 3, none⟩ = some c3 := by
  refine ⟨?_, ?_, ?_, ?_⟩
  all_goals (unfold World.cell?; rw [h]; rfl)
/-! ### how much is left -/
theorem arr_left {n : Nat} {s : Sv} {k : Nat} {d : Int} (hk : k ≤ n) (hd : d ≠ -1) : (arr n s k d).S.length + left n (arr n s k d).L = s.S.length + left n s.L := by
  unfold arr
  by_cases h1 : k = n
  · rw [if_pos h1]
  · rw [if_neg h1]
    by_cases h2 : s.L k = -1
    · rw [if_pos h2]
      have := left_upd (n := n) (L := s.L) (k := k) (d := d) (by omega) h2 hd
      simp
      omega
    · rw [if_neg h2]
      by_cases h3 : s.L k = d
      · rw [if_pos h3]
      · rw [if_neg h3]
theorem gon_left {P : Pg} (g : Gd P) {s : Sv} {k : Nat} (hk : k < P.n) : (gon P s k).S.length + left P.n (gon P s k).L = s.S.length + left P.n s.L := by
  have hpp := pops_b (P.op k)
  have hpu := pushes_b (P.op k)
  unfold gon
  simp only []
  obtain ⟨bad, hbad⟩ : ∃ bad, (decide (s.L k - pops (P.op k) < 0) || decide (64 < s.L k - pops (P.op k) + pushes (P.op k))) = bad := ⟨_, rfl⟩
  rw [hbad]
  obtain ⟨d, hd⟩ : ∃ d, (if bad then 0 else s.L k - pops (P.op k)) + pushes (P.op k) = d := ⟨_, rfl⟩
  rw [hd]
  have hd1 : d ≠ -1 := by
    rw [← hd]
    rcases bad with _ | _
    · simp at hbad
      simp
      omega
    · simp
      omega
  obtain ⟨s1, hs1⟩ : ∃ s1 : Sv, { s with un := s.un || bad } = s1 := ⟨_, rfl⟩
  rw [hs1]
  have e1 : s1.S.length + left P.n s1.L = s.S.length + left P.n s.L := by rw [← hs1]
  have e2 : (if jmp (P.op k) then arr P.n s1 (P.a k).toNat d else s1).S.length + left P.n (if jmp (P.op k) then arr P.n s1 (P.a k).toNat d else s1).L = s.S.length + left P.n s.L := by
    by_cases hj : jmp (P.op k) = true
    · rw [if_pos hj, arr_left (by have := g.a k hk hj; omega) hd1, e1]
    · rw [if_neg hj, e1]
  by_cases he : ends (P.op k) = true
  · rw [if_pos he, e2]
  · rw [if_neg he, arr_left (by omega) hd1, e2]
def slen : Option Value → Nat
  | some (.slice _ m _) => m
  | _ => 0
def isN1 : Option Value → Bool
  | some (.int .i64 x) => x == -1
  | _ => false
def muW (sb db n : Nat) (W : World) : Nat := slen (W.cell? ⟨sb, 2, none⟩) + ((List.range n).filter fun i => isN1 (W.cell? ⟨db, i, none⟩)).length
theorem SvW.mu {w0 W : World} {base sb db n cc : Nat} {cp : Option Addr} {s : Sv} {ov : Value} (h : SvW w0 W base sb db n cc cp s ov) : muW sb db n W = s.S.length + left n s.L := by
  unfold muW left
  rw [h.cells.2.2.1]
  congr 1
  · rcases h.opn.form with ⟨h7, h8⟩ | ⟨g, c, h7, h8, _⟩
    · rw [h7, h8]; rfl
    · rw [h7]; rfl
  · congr 1
    apply List.filter_congr
    intro i hi
    rw [(h.depc (List.mem_range.1 hi)).1]
    rfl
theorem Own.shrink {W : World} {base : Nat} {t : TypeId} {s g m c : Nat} {F : Nat → Value} (h : Own W base t s (.slice (some ⟨g, 0, none⟩) m c) m F) {m' : Nat} (hm : m' ≤ m) : Own W base t s (.slice (some ⟨g, 0, none⟩) m' c) m' F := by
  obtain ⟨cur, h1, h2, h3, h4, h5, h6⟩ := h.block
  exact Own.mk' h1 h2 (by omega) h4 h5 fun j hj => h6 j (Nat.lt_of_lt_of_le hj (Nat.mul_le_mul_right _ hm))
theorem grownBy_refl (W : World) (r : Option Nat) : W.grownBy W r := ⟨rfl, rfl, rfl, Nat.le_refl _, fun _ _ _ => rfl⟩
/-- the last open place is taken -/
theorem SvW.pop {w0 W : World} {base sb db n cc : Nat} {cp : Option Addr} {s : Sv} {ov : Value} (h : SvW w0 W base sb db n cc cp s ov) (hp : 0 < s.S.length) (hbw : base ≤ W.heap.size) :
    ∃ g c, ov = .slice (some ⟨g, 0, none⟩) s.S.length c ∧ W.cell? ⟨g, s.S.length - 1, none⟩ = some (.int .i64 ((s.S.getD (s.S.length - 1) 0 : Nat) : Int)) ∧ s.S.length ≤ c ∧
      SvW w0 (W.setCell ⟨sb, 2, none⟩ (.slice (some ⟨g, 0, none⟩) (s.S.length - 1) c)) base sb db n cc cp { s with S := s.S.dropLast } (.slice (some ⟨g, 0, none⟩) (s.S.length - 1) c) := by
  rcases h.opn.form with ⟨h7, h8⟩ | ⟨g, c, h7, h8, _⟩
  · omega
  · have ho := h.opn
    rw [h7] at ho
    obtain ⟨cur, h1, h2, h3, h4, h5, h6⟩ := ho.block
    refine ⟨g, c, h7, ho.cell (by omega), h3, ?_⟩
    refine h.setOpn (W' := W) (grownBy_refl W _) ?_ (.inl (by rw [h7]; rfl)) hbw
    rw [List.length_dropLast]
    refine (ho.shrink (m' := s.S.length - 1) (by omega)).congr fun j hj => ?_
    show Value.int .i64 ((s.S.getD j 0 : Nat) : Int) = Value.int .i64 ((s.S.dropLast.getD j 0 : Nat) : Int)
    rw [List.getD_eq_getElem?_getD, List.getD_eq_getElem?_getD, List.getElem?_dropLast, if_pos (by omega)]
theorem inv_pop {P : Pg} {s : Sv} {m : Nat} (h : Inv P s (fun _ => False) m) (hp : 0 < s.S.length) : Inv P { s with S := s.S.dropLast } (fun i => i = s.S.getD (s.S.length - 1) 0) m ∧ s.S.getD (s.S.length - 1) 0 < P.n ∧ s.L (s.S.getD (s.S.length - 1) 0) ≠ -1 := by
  have hne : s.S ≠ [] := by intro e; rw [e] at hp; cases hp
  have hlast : s.S.getD (s.S.length - 1) 0 = s.S.getLast hne := by
    rw [List.getD_eq_getElem?_getD, List.getElem?_eq_getElem (by omega)]
    simp [List.getLast_eq_getElem]
  have hmem : s.S.getD (s.S.length - 1) 0 ∈ s.S := by rw [hlast]; exact List.getLast_mem hne
  have hsp : ∀ {i}, ¬ (i ∈ s.S.dropLast ∨ i = s.S.getD (s.S.length - 1) 0) → ¬ (i ∈ s.S ∨ False) := by
    intro i hx hc
    rcases hc with hc | hc
    · rw [← List.dropLast_concat_getLast hne] at hc
      rcases List.mem_append.1 hc with hc | hc
      · exact hx (.inl hc)
      · exact hx (.inr ((List.mem_singleton.1 hc).trans hlast.symm))
    · exact hc
  refine ⟨⟨h.rch, h.bey, h.ent, fun i hi hl hx => h.nx i hi hl (hsp hx), fun i hi hl hx => h.jp i hi hl (hsp hx), fun i hi => h.st i (List.dropLast_subset _ hi), h.un, h.dp, h.ent0, fun hu i hi hl hx => h.fin hu i hi hl (hsp hx), fun hu i hi hl hx => h.nx0 hu i hi hl (hsp hx), fun hu i hi hl hx => h.jp0 hu i hi hl (hsp hx), h.wide⟩, (h.st _ hmem).1, (h.st _ hmem).2⟩
/-- an entry is arrived at -/
theorem inv_entry {P : Pg} {s : Sv} {j : Nat} (h : Inv P s (fun _ => False) j) (hj : j < P.m) (h0 : 0 ≤ P.en j) (hn : P.en j < P.n) : Inv P (arr P.n s (P.en j).toNat 0) (fun _ => False) (j + 1) := by
  have hi := h.arr (k := (P.en j).toNat) (d := 0) (by omega) (.entry j hj h0) (by omega) (fun _ => .entry j hj h0)
  have hne : (P.en j).toNat ≠ P.n := by omega
  refine ⟨hi.rch, hi.bey, fun j' hj' he => ?_, hi.nx, hi.jp, hi.st, hi.un, hi.dp, fun hu j' hj' he => ?_, hi.fin, hi.nx0, hi.jp0, hi.wide⟩
  · by_cases e : j' = j
    · subst e; exact arr_at (by omega) hne
    · exact hi.ent j' (by omega) he
  · by_cases e : j' = j
    · subst e; exact arr_at0 hne hu
    · exact hi.ent0 hu j' (by omega) he
theorem inv_skip {P : Pg} {s : Sv} {j : Nat} (h : Inv P s (fun _ => False) j) (h0 : P.en j < 0) : Inv P s (fun _ => False) (j + 1) := by
  refine ⟨h.rch, h.bey, fun j' hj' he => ?_, h.nx, h.jp, h.st, h.un, h.dp, fun hu j' hj' he => ?_, h.fin, h.nx0, h.jp0, h.wide⟩
  · by_cases e : j' = j
    · subst e; omega
    · exact h.ent j' (by omega) he
  · by_cases e : j' = j
    · subst e; omega
    · exact h.ent0 hu j' (by omega) he
def sv0 : Sv := ⟨fun _ => -1, [], false, false⟩
theorem inv_start (P : Pg) : Inv P sv0 (fun _ => False) 0 :=
  ⟨fun i hi h => absurd rfl h, fun h => (by cases h), fun j hj => (by omega), fun i hi h => absurd rfl h, fun i hi h => absurd rfl h, fun i hi => (by cases hi), fun h => (by cases h), fun _ i hi h => absurd rfl h, fun _ j hj => (by omega), fun _ i hi h => absurd rfl h, fun _ i hi h => absurd rfl h, fun _ i hi h => absurd rfl h, fun i hi => ⟨by show (-1 : Int) ≤ -1; omega, by show (-1 : Int) ≤ 64; omega⟩⟩
theorem left_le (n : Nat) (L : Nat → Int) : left n L ≤ n := by
  unfold left
  exact Nat.le_trans (List.length_filter_le _ _) (by simp)
theorem sv_start {W : World} {base sb db n cc : Nat} {cp : Option Addr} {w0 : World} (hb : W.heap[sb]? = some (.cells #[.slice cp n cc, .slice (some ⟨db, 0, none⟩) n n, .slice none 0 0, .bool false, .bool false] 100 (0, 0))) (hd : W.heap[db]? = some (.cells (madeCells #[.int .i64 0] n) 3 (0, 0))) (hsd : sb ≠ db) (h1 : base ≤ sb) (h2 : base ≤ db) (hbel : Below base w0 W) (hn : n ≤ 4096) : SvW w0 W base sb db n cc cp ⟨fun _ => 0, [], false, false⟩ (.slice none 0 0) := by
  refine ⟨hb, Own.mk' hd (by rw [size_madeCells, Nat.mul_one]) (Nat.le_refl _) (by unfold maxLen; omega) h2 (fun j hj => ?_), World.ownsRow_nil _ _ _ _, (by intro e; cases e), (by intro e; cases e), hsd, h1, hbel⟩
  have e : j % 1 = 0 := by omega
  simp [madeCells, show j < n by omega, e]
  rfl
def fil (k : Nat) : Nat → Int := fun i => if i < k then -1 else 0
theorem fil_step (k : Nat) : updI (fil k) k (-1) = fil (k + 1) := by
  funext i
  unfold updI fil
  by_cases h : i = k
  · subst h; simp
  · rw [if_neg h]
    by_cases h2 : i < k
    · rw [if_pos h2, if_pos (by omega)]
    · rw [if_neg h2, if_neg (by omega)]
theorem Own.eqv {W : World} {base : Nat} {t : TypeId} {s m : Nat} {v : Value} {F G : Nat → Int} (h : Own W base t s v m (iv F)) (he : ∀ j, j < m * s → F j = G j) : Own W base t s v m (iv G) := h.congr fun j hj => by unfold iv; rw [he j hj]
theorem SvW.eqL {w0 W : World} {base sb db n cc : Nat} {cp : Option Addr} {s : Sv} {ov : Value} (h : SvW w0 W base sb db n cc cp s ov) {L : Nat → Int} (he : ∀ j, j < n → s.L j = L j) : SvW w0 W base sb db n cc cp { s with L := L } ov := ⟨h.box, h.dep.eqv fun j hj => he j (by omega), h.opn, h.ns, h.nd, h.sd, h.bs, h.bel⟩
/-- what a survey tells -/
def mAns (P : Pg) (W : World) (base : Nat) (v : Value) (c : Int) : Prop :=
  (Rch P P.n ∧ c = 62 ∧ v = .slice none 0 0) ∨ (¬ Rch P P.n ∧ BadD P ∧ c = 61 ∧ v = .slice none 0 0) ∨ (¬ Rch P P.n ∧ ¬ BadD P ∧ c = 0 ∧ ∃ db, v = .slice (some ⟨db, 0, none⟩) P.n P.n ∧ Own W base 3 1 v P.n (iv (dL P)))
set_option maxRecDepth 100000 in
set_option maxHeartbeats 4000000 in
theorem measure_any (P : Pg) (g : Gd P) (hs : sizedP P) (v : PgV) (w : World) (hI : IAt w v.cp P.n P.op P.a P.b) (hE : KAt w v.ep P.m P.en) :
    Calls Tryz.prog 29 #[.agg #[.int .i64 P.words, .int .i64 P.locals, .slice v.cp P.n v.cc, .slice v.ep P.m v.ec]] w fun e w' => ∃ r c, e = .returned (.tuple #[r, .int .i64 c]) ∧ Below w.heap.size w w' ∧ mAns P w' w.heap.size r c := by
  obtain ⟨i5, hi5, hz0, hz1, hz2⟩ := info_parts infoInt1
  have hn : P.n ≤ 4096 := hs.2.2.1
  have hm32 : P.m ≤ 32 := hs.2.2.2
  have hb5 : i5.bytes * P.n ≤ 281474976710656 := by rw [hz2]; omega
  have hn9 : P.n ≤ 9223372036854775807 := by omega
  go_enter Tryz.func29, Tryz.ntmps29
  go_wp2
  obtain ⟨wp, hwp⟩ : ∃ wp, w.alloc (.cells #[.int .i64 P.words, .int .i64 P.locals, .slice v.cp P.n v.cc, .slice v.ep P.m v.ec] 25) = wp := ⟨_, rfl⟩
  rw [hwp]
  have hbox : wp.heap[w.heap.size]? = some (.cells #[.int .i64 P.words, .int .i64 P.locals, .slice v.cp P.n v.cc, .slice v.ep P.m v.ec] 25 (0, 0)) := by rw [← hwp]; exact World.alloc_heap_new w _
  obtain ⟨p0, p1, p2, p3⟩ := cells4 hbox
  have hbelp : Below w.heap.size w wp := by rw [← hwp]; exact (Below.refl _ w).alloc (Nat.le_refl _) _
  have hszp : wp.heap.size = w.heap.size + 1 := by rw [← hwp, World.size_alloc]
  have hI' := hI.below hbelp
  have hE' := hE.below hbelp
  clear hwp hI hE
  have hrun := fun W => run_make_row (P := Tryz.prog) 23 3 i5 (.int .i64 0) Tryz.underlying23 hi5 hz0 hz1 rfl .i64 .i64 P.n hb5 hn9 W
  go_region_held3 (fun w' => w'.cell? ⟨w.heap.size, 2, none⟩ = some (.slice v.cp P.n v.cc)) (go_keep) (fail)
  all_goals
    generalize hW1 : (World.drew (World.alloc (World.alloc wp _) _)) = W1
  · obtain ⟨sb, hsb⟩ : ∃ sb, w.heap.size + 1 + 1 = sb := ⟨_, rfl⟩
    rw [hsb]
    obtain ⟨db, hdb⟩ : ∃ db, w.heap.size + 1 = db := ⟨_, rfl⟩
    rw [hdb]
    have hSv : SvW wp W1 wp.heap.size sb db P.n v.cc v.cp ⟨fun _ => 0, [], false, false⟩ (.slice none 0 0) := by
      rw [← hW1]
      refine sv_start ?_ ?_ (by omega) (by omega) (by omega) ?_ hn
      · show (World.alloc (World.alloc wp _) _).heap[sb]? = _
        rw [show sb = (World.alloc wp (.cells (madeCells #[.int .i64 0] P.n) 3)).heap.size by rw [World.size_alloc]; omega, World.alloc_heap_new, ← hdb]
      · show (World.alloc (World.alloc wp _) _).heap[db]? = _
        rw [Below.heap_alloc _ _ _ (by rw [World.size_alloc]; omega), show db = wp.heap.size by omega, World.alloc_heap_new]
      · exact (((Below.refl _ wp).alloc (Nat.le_refl _) _).alloc (by simp) _).trans ⟨rfl, rfl, rfl, Nat.le_refl _, fun _ _ => rfl⟩
    clear hsb hdb hW1 hrun hb5 hn9 p0 p1 p2 p3
    obtain ⟨_, c1, _⟩ := hSv.cells
    go_wp2
    go_loopw [20] (fun x wr => ∃ k : Nat, x = .int .i64 k ∧ k ≤ P.n ∧ SvW wp wr wp.heap.size sb db P.n v.cc v.cp ⟨fil k, [], false, false⟩ (.slice none 0 0)) (fun v _ => P.n - (intOf v).toNat)
    case atStart => exact ⟨0, rfl, Nat.zero_le _, hSv.eqL (L := fil 0) (fun j hj => by unfold fil; rw [if_neg (by omega)])⟩
    case round =>
      obtain ⟨k, rfl, hk, hr⟩ := hrel
      by_cases hlt : k < P.n
      · obtain ⟨_, q1, _⟩ := hr.cells
        obtain ⟨y0, y1⟩ := hr.depc hlt
        have hm := meas0 hlt
        have i0 : (0 : Int) ≤ (k : Int) := by omega
        have i1 : (k : Int) < (P.n : Int) := by omega
        have hq := hr.setL hlt (-1)
        clear c1 hSv hr hbox hI' hE'
        go_wp2
        exact ⟨⟨k + 1, rfl, hlt, by rw [← fil_step]; exact hq⟩, hm⟩
      · obtain rfl : k = P.n := by omega
        have hr0 := hr.eqL (L := fun _ => -1) (fun j hj => by show fil P.n j = -1; unfold fil; rw [if_pos hj])
        have hbx := (hr.bel.block w.heap.size (by rw [hszp]; exact Nat.lt_succ_self _)).trans hbox
        obtain ⟨p0, p1, p2, p3⟩ := cells4 hbx
        have dl : decide ((P.n : Int) < P.n) = false := by simp
        clear c1 hSv hr
        go_wp2
        clear p0 p1 p2 p3
        obtain ⟨w4, hw4⟩ : ∃ w4, wr = w4 := ⟨_, rfl⟩
        rw [hw4] at hr0 hbx ⊢
        clear hw4 wr
        go_loopw [31] (fun x wr => ∃ (j : Nat) (s : Sv) (ov : Value), x = .int .i64 j ∧ j ≤ P.m ∧ SvW wp wr wp.heap.size sb db P.n v.cc v.cp s ov ∧ Inv P s (fun _ => False) j ∧ s.S.length + left P.n s.L ≤ P.n) (fun v _ => P.m - (intOf v).toNat)
        case atStart => exact ⟨0, sv0, .slice none 0 0, rfl, Nat.zero_le _, hr0, inv_start P, by have := left_le P.n sv0.L; simp [sv0] at this ⊢; exact this⟩
        case round =>
          obtain ⟨j, s, ov, rfl, hj, hr, hinv, hlen⟩ := hrel
          by_cases hlt : j < P.m
          · obtain h0 | ⟨eb, eo, hep, hel, hec⟩ := hE'.below hr.bel
            · omega
            have x0 := hec j hlt
            have hm := meas0 hlt
            have i0 : (0 : Int) ≤ (j : Int) := by omega
            have i1 : (j : Int) < (P.m : Int) := by omega
            have hen := g.en j hlt
            rw [hep]
            by_cases he : P.en j = -1
            · rw [he] at x0
              have hinv' := inv_skip hinv (by omega)
              clear hinv hE' hI' hec hr0 hbox
              go_wp2
              exact ⟨⟨j + 1, s, ov, rfl, hlt, hr, hinv', hlen⟩, hm⟩
            · have hinv' := inv_entry hinv hlt (by omega) hen.2
              have hlen' : (arr P.n s (P.en j).toNat 0).S.length + left P.n (arr P.n s (P.en j).toNat 0).L ≤ P.n := by rw [arr_left (by omega) (by omega)]; exact hlen
              have HA := arrive_any wp wr wp.heap.size sb db P.n v.cc v.cp s ov (P.en j).toNat 0 (by omega) hn (by omega) hr.bel.size hr
              have hec2 : ((P.en j).toNat : Int) = P.en j := by omega
              rw [hec2] at HA
              have de : (P.en j == -1) = false := by simpa using he
              have HI : Hid (Inv P (arr P.n s (P.en j).toNat 0) (fun _ => False) (j + 1)) := hinv'
              clear hinv hE' hI' hec hr0 hbox hec2 hinv' he
              go_wp2_with (go_at_call 53; (with_reducible refine HA.mono ?_); rintro e w2 ⟨rfl, z1, z2, ov2, z3⟩)
              exact ⟨⟨j + 1, _, ov2, rfl, hlt, z3, HI.out, hlen'⟩, hm⟩
          · obtain rfl : j = P.m := by omega
            have dl : decide ((P.m : Int) < P.m) = false := by simp
            clear hr0 hbx hbox
            go_wp2
            obtain ⟨w5, hw5⟩ : ∃ w5, wr = w5 := ⟨_, rfl⟩
            rw [hw5] at hr ⊢
            clear hw5 wr
            go_loopw [] (fun wr => ∃ (s : Sv) (ov : Value), SvW wp wr wp.heap.size sb db P.n v.cc v.cp s ov ∧ Inv P s (fun _ => False) P.m ∧ s.S.length + left P.n s.L ≤ P.n) (fun wr => muW sb db P.n wr)
            case atStart => exact ⟨s, ov, hr, hinv, hlen⟩
            case round =>
              clear hr hinv hlen
              obtain ⟨s, ov, hr, hinv, hlen⟩ := hrel
              obtain ⟨_, _, q2, q3, q4, qf⟩ := hr.cells
              have qf2 := qf 2
              by_cases hp : 0 < s.S.length
              · obtain ⟨gb, gc, hov, hcl, hcap, hpop⟩ := hr.pop hp hr.bel.size
                obtain ⟨hinv1, hat1, hat2⟩ := inv_pop hinv hp
                have hw := hinv1.wide _ hat1
                have hmu := hr.mu
                have hgl := gon_left g (s := { s with S := s.S.dropLast }) hat1
                have hdl : s.S.dropLast.length = s.S.length - 1 := List.length_dropLast
                have HG := goOn_any P g wp _ sb db v.cc v.cp _ _ _ hat1 hn (by show s.S.dropLast.length ≤ 4095; omega) (by have : s.L (s.S.getD (s.S.length - 1) 0) ≠ -1 := hat2; show 0 ≤ s.L _ ∧ s.L _ ≤ 64; have h1 : -1 ≤ s.L (s.S.getD (s.S.length - 1) 0) := hw.1; have h2 : s.L (s.S.getD (s.S.length - 1) 0) ≤ 64 := hw.2; omega) hI' hpop
                have hinv2 : Hid (Inv P (gon P { s with S := s.S.dropLast } (s.S.getD (s.S.length - 1) 0)) (fun _ => False) P.m) := hinv1.gon g hat1 hat2
                have hl2 : Hid ((gon P { s with S := s.S.dropLast } (s.S.getD (s.S.length - 1) 0)).S.length + left P.n (gon P { s with S := s.S.dropLast } (s.S.getD (s.S.length - 1) 0)).L + 1 = s.S.length + left P.n s.L) := by
                  rw [hgl]
                  show s.S.dropLast.length + left P.n s.L + 1 = _
                  omega
                rw [hov] at q2
                obtain ⟨at', hat'⟩ : ∃ at', s.S.getD (s.S.length - 1) 0 = at' := ⟨_, rfl⟩
                rw [hat'] at HG hinv2 hl2 hcl
                obtain ⟨lm, hlm⟩ : ∃ lm, s.S.length - 1 = lm := ⟨_, rfl⟩
                rw [hlm] at HG hcl
                have e1 : ((s.S.length : Nat) : Int) - 1 = (lm : Int) := by omega
                have e2 : (0 : Int) ≤ (lm : Int) := by omega
                have e3 : (lm : Int) < ((s.S.length : Nat) : Int) := by omega
                have e4 : (lm : Int) ≤ (gc : Int) := by omega
                have e5 : decide ((0 : Int) < ((s.S.length : Nat) : Int)) = true := by simp; omega
                clear hpop hinv hinv1 hat1 hat2 hw hgl hdl hov hE' hI' hr hlm
                go_wp2_with (go_at_call 54; (with_reducible refine HG.mono ?_); rintro e w2 ⟨rfl, ov2, z3⟩)
                have hx := hl2.out
                exact ⟨⟨_, ov2, z3, hinv2.out, by omega⟩, by rw [z3.mu, hmu]; omega⟩
              · have hS0 : s.S = [] := List.eq_nil_of_length_eq_zero (by omega)
                obtain ⟨hbey, hrest⟩ := hinv.done g hS0
                have hovn : ov = .slice none 0 0 ∨ ∃ gb gc, ov = .slice (some ⟨gb, 0, none⟩) 0 gc := by
                  rcases hr.opn.form with ⟨h7, h8⟩ | ⟨gb, gc, h7, h8, _⟩
                  · exact .inl h7
                  · exact .inr ⟨gb, gc, by rw [h7, hS0]; rfl⟩
                have hlen0 : ∃ pp cq, ov = .slice pp 0 cq := by
                  rcases hovn with h | ⟨gb, gc, h⟩
                  · exact ⟨_, _, h⟩
                  · exact ⟨_, _, h⟩
                obtain ⟨pp, cq, hov⟩ := hlen0
                rw [hov] at q2
                have hbelw := hbelp.trans (hr.bel.mono hbelp.size)
                have HR : Hid (SvW wp wr wp.heap.size sb db P.n v.cc v.cp s ov) := hr
                obtain ⟨_, q1, _⟩ := hr.cells
                have H1 : Hid (s.bey = true ↔ Rch P P.n) := hbey
                have H2 : Hid (¬ Rch P P.n → (s.un = true ↔ BadD P) ∧ (s.un = false → Sol P s.L)) := hrest
                clear hbey hrest hinv hr hovn hE' hI' hov hS0 hp
                rcases hb : s.bey with _ | _
                · rw [hb] at q3
                  rcases hu : s.un with _ | _
                  · rw [hu] at q4
                    go_wp2
                    go_ret2
                    have hnr : ¬ Rch P P.n := fun h => by have := H1.out.2 h; rw [hb] at this; cases this
                    obtain ⟨h3, h4⟩ := H2.out hnr
                    have hsol := h4 hu
                    refine ⟨_, _, rfl, hbelw, .inr (.inr ⟨hnr, hsol.good g hnr, rfl, db, rfl, ?_⟩)⟩
                    have hd := HR.out.dep.eqv (G := dL P) (fun j hj => hsol.dL g hnr (by omega))
                    obtain ⟨cur, k1, k2, k3, k4, k5, k6⟩ := hd.block
                    exact Own.mk' k1 k2 k3 k4 (Nat.le_trans hbelp.size k5) k6
                  · rw [hu] at q4
                    go_wp2
                    go_ret2
                    have hnr : ¬ Rch P P.n := fun h => by have := H1.out.2 h; rw [hb] at this; cases this
                    obtain ⟨h3, h4⟩ := H2.out hnr
                    exact ⟨_, _, rfl, hbelw, .inr (.inl ⟨hnr, h3.1 hu, rfl, rfl⟩)⟩
                · rw [hb] at q3
                  go_wp2
                  go_ret2
                  exact ⟨_, _, rfl, hbelw, .inl ⟨H1.out.1 hb, rfl, rfl⟩⟩
  · obtain ⟨db, hdb⟩ : ∃ db, w.heap.size + 1 + 1 = db := ⟨_, rfl⟩
    rw [hdb]
    obtain ⟨sb, hsb⟩ : ∃ sb, w.heap.size + 1 = sb := ⟨_, rfl⟩
    rw [hsb]
    have hSv : SvW wp W1 wp.heap.size sb db P.n v.cc v.cp ⟨fun _ => 0, [], false, false⟩ (.slice none 0 0) := by
      rw [← hW1]
      refine sv_start ?_ ?_ (by omega) (by omega) (by omega) ?_ hn
      · show (World.alloc (World.alloc wp _) _).heap[sb]? = _
        rw [Below.heap_alloc _ _ _ (by rw [World.size_alloc]; omega), show sb = wp.heap.size by omega, World.alloc_heap_new, ← hdb]
      · show (World.alloc (World.alloc wp _) _).heap[db]? = _
        rw [show db = (World.alloc wp (.cells #[.slice v.cp P.n v.cc, .slice (some ⟨w.heap.size + 1 + 1, 0, none⟩) P.n P.n, .slice none 0 0, .bool false, .bool false] 100)).heap.size by rw [World.size_alloc]; omega]
        exact World.alloc_heap_new _ _
      · exact (((Below.refl _ wp).alloc (Nat.le_refl _) _).alloc (by simp) _).trans ⟨rfl, rfl, rfl, Nat.le_refl _, fun _ _ => rfl⟩
    clear hsb hdb hW1 hrun hb5 hn9 p0 p1 p2 p3
    obtain ⟨_, c1, _⟩ := hSv.cells
    go_wp2
    go_loopw [20] (fun x wr => ∃ k : Nat, x = .int .i64 k ∧ k ≤ P.n ∧ SvW wp wr wp.heap.size sb db P.n v.cc v.cp ⟨fil k, [], false, false⟩ (.slice none 0 0)) (fun v _ => P.n - (intOf v).toNat)
    case atStart => exact ⟨0, rfl, Nat.zero_le _, hSv.eqL (L := fil 0) (fun j hj => by unfold fil; rw [if_neg (by omega)])⟩
    case round =>
      obtain ⟨k, rfl, hk, hr⟩ := hrel
      by_cases hlt : k < P.n
      · obtain ⟨_, q1, _⟩ := hr.cells
        obtain ⟨y0, y1⟩ := hr.depc hlt
        have hm := meas0 hlt
        have i0 : (0 : Int) ≤ (k : Int) := by omega
        have i1 : (k : Int) < (P.n : Int) := by omega
        have hq := hr.setL hlt (-1)
        clear c1 hSv hr hbox hI' hE'
        go_wp2
        exact ⟨⟨k + 1, rfl, hlt, by rw [← fil_step]; exact hq⟩, hm⟩
      · obtain rfl : k = P.n := by omega
        have hr0 := hr.eqL (L := fun _ => -1) (fun j hj => by show fil P.n j = -1; unfold fil; rw [if_pos hj])
        have hbx := (hr.bel.block w.heap.size (by rw [hszp]; exact Nat.lt_succ_self _)).trans hbox
        obtain ⟨p0, p1, p2, p3⟩ := cells4 hbx
        have dl : decide ((P.n : Int) < P.n) = false := by simp
        clear c1 hSv hr
        go_wp2
        clear p0 p1 p2 p3
        obtain ⟨w4, hw4⟩ : ∃ w4, wr = w4 := ⟨_, rfl⟩
        rw [hw4] at hr0 hbx ⊢
        clear hw4 wr
        go_loopw [31] (fun x wr => ∃ (j : Nat) (s : Sv) (ov : Value), x = .int .i64 j ∧ j ≤ P.m ∧ SvW wp wr wp.heap.size sb db P.n v.cc v.cp s ov ∧ Inv P s (fun _ => False) j ∧ s.S.length + left P.n s.L ≤ P.n) (fun v _ => P.m - (intOf v).toNat)
        case atStart => exact ⟨0, sv0, .slice none 0 0, rfl, Nat.zero_le _, hr0, inv_start P, by have := left_le P.n sv0.L; simp [sv0] at this ⊢; exact this⟩
        case round =>
          obtain ⟨j, s, ov, rfl, hj, hr, hinv, hlen⟩ := hrel
          by_cases hlt : j < P.m
          · obtain h0 | ⟨eb, eo, hep, hel, hec⟩ := hE'.below hr.bel
            · omega
            have x0 := hec j hlt
            have hm := meas0 hlt
            have i0 : (0 : Int) ≤ (j : Int) := by omega
            have i1 : (j : Int) < (P.m : Int) := by omega
            have hen := g.en j hlt
            rw [hep]
            by_cases he : P.en j = -1
            · rw [he] at x0
              have hinv' := inv_skip hinv (by omega)
              clear hinv hE' hI' hec hr0 hbox
              go_wp2
              exact ⟨⟨j + 1, s, ov, rfl, hlt, hr, hinv', hlen⟩, hm⟩
            · have hinv' := inv_entry hinv hlt (by omega) hen.2
              have hlen' : (arr P.n s (P.en j).toNat 0).S.length + left P.n (arr P.n s (P.en j).toNat 0).L ≤ P.n := by rw [arr_left (by omega) (by omega)]; exact hlen
              have HA := arrive_any wp wr wp.heap.size sb db P.n v.cc v.cp s ov (P.en j).toNat 0 (by omega) hn (by omega) hr.bel.size hr
              have hec2 : ((P.en j).toNat : Int) = P.en j := by omega
              rw [hec2] at HA
              have de : (P.en j == -1) = false := by simpa using he
              have HI : Hid (Inv P (arr P.n s (P.en j).toNat 0) (fun _ => False) (j + 1)) := hinv'
              clear hinv hE' hI' hec hr0 hbox hec2 hinv' he
              go_wp2_with (go_at_call 53; (with_reducible refine HA.mono ?_); rintro e w2 ⟨rfl, z1, z2, ov2, z3⟩)
              exact ⟨⟨j + 1, _, ov2, rfl, hlt, z3, HI.out, hlen'⟩, hm⟩
          · obtain rfl : j = P.m := by omega
            have dl : decide ((P.m : Int) < P.m) = false := by simp
            clear hr0 hbx hbox
            go_wp2
            obtain ⟨w5, hw5⟩ : ∃ w5, wr = w5 := ⟨_, rfl⟩
            rw [hw5] at hr ⊢
            clear hw5 wr
            go_loopw [] (fun wr => ∃ (s : Sv) (ov : Value), SvW wp wr wp.heap.size sb db P.n v.cc v.cp s ov ∧ Inv P s (fun _ => False) P.m ∧ s.S.length + left P.n s.L ≤ P.n) (fun wr => muW sb db P.n wr)
            case atStart => exact ⟨s, ov, hr, hinv, hlen⟩
            case round =>
              clear hr hinv hlen
              obtain ⟨s, ov, hr, hinv, hlen⟩ := hrel
              obtain ⟨_, _, q2, q3, q4, qf⟩ := hr.cells
              have qf2 := qf 2
              by_cases hp : 0 < s.S.length
              · obtain ⟨gb, gc, hov, hcl, hcap, hpop⟩ := hr.pop hp hr.bel.size
                obtain ⟨hinv1, hat1, hat2⟩ := inv_pop hinv hp
                have hw := hinv1.wide _ hat1
                have hmu := hr.mu
                have hgl := gon_left g (s := { s with S := s.S.dropLast }) hat1
                have hdl : s.S.dropLast.length = s.S.length - 1 := List.length_dropLast
                have HG := goOn_any P g wp _ sb db v.cc v.cp _ _ _ hat1 hn (by show s.S.dropLast.length ≤ 4095; omega) (by have : s.L (s.S.getD (s.S.length - 1) 0) ≠ -1 := hat2; show 0 ≤ s.L _ ∧ s.L _ ≤ 64; have h1 : -1 ≤ s.L (s.S.getD (s.S.length - 1) 0) := hw.1; have h2 : s.L (s.S.getD (s.S.length - 1) 0) ≤ 64 := hw.2; omega) hI' hpop
                have hinv2 : Hid (Inv P (gon P { s with S := s.S.dropLast } (s.S.getD (s.S.length - 1) 0)) (fun _ => False) P.m) := hinv1.gon g hat1 hat2
                have hl2 : Hid ((gon P { s with S := s.S.dropLast } (s.S.getD (s.S.length - 1) 0)).S.length + left P.n (gon P { s with S := s.S.dropLast } (s.S.getD (s.S.length - 1) 0)).L + 1 = s.S.length + left P.n s.L) := by
                  rw [hgl]
                  show s.S.dropLast.length + left P.n s.L + 1 = _
                  omega
                rw [hov] at q2
                obtain ⟨at', hat'⟩ : ∃ at', s.S.getD (s.S.length - 1) 0 = at' := ⟨_, rfl⟩
                rw [hat'] at HG hinv2 hl2 hcl
                obtain ⟨lm, hlm⟩ : ∃ lm, s.S.length - 1 = lm := ⟨_, rfl⟩
                rw [hlm] at HG hcl
                have e1 : ((s.S.length : Nat) : Int) - 1 = (lm : Int) := by omega
                have e2 : (0 : Int) ≤ (lm : Int) := by omega
                have e3 : (lm : Int) < ((s.S.length : Nat) : Int) := by omega
                have e4 : (lm : Int) ≤ (gc : Int) := by omega
                have e5 : decide ((0 : Int) < ((s.S.length : Nat) : Int)) = true := by simp; omega
                clear hpop hinv hinv1 hat1 hat2 hw hgl hdl hov hE' hI' hr hlm
                go_wp2_with (go_at_call 54; (with_reducible refine HG.mono ?_); rintro e w2 ⟨rfl, ov2, z3⟩)
                have hx := hl2.out
                exact ⟨⟨_, ov2, z3, hinv2.out, by omega⟩, by rw [z3.mu, hmu]; omega⟩
              · have hS0 : s.S = [] := List.eq_nil_of_length_eq_zero (by omega)
                obtain ⟨hbey, hrest⟩ := hinv.done g hS0
                have hovn : ov = .slice none 0 0 ∨ ∃ gb gc, ov = .slice (some ⟨gb, 0, none⟩) 0 gc := by
                  rcases hr.opn.form with ⟨h7, h8⟩ | ⟨gb, gc, h7, h8, _⟩
                  · exact .inl h7
                  · exact .inr ⟨gb, gc, by rw [h7, hS0]; rfl⟩
                have hlen0 : ∃ pp cq, ov = .slice pp 0 cq := by
                  rcases hovn with h | ⟨gb, gc, h⟩
                  · exact ⟨_, _, h⟩
                  · exact ⟨_, _, h⟩
                obtain ⟨pp, cq, hov⟩ := hlen0
                rw [hov] at q2
                have hbelw := hbelp.trans (hr.bel.mono hbelp.size)
                have HR : Hid (SvW wp wr wp.heap.size sb db P.n v.cc v.cp s ov) := hr
                obtain ⟨_, q1, _⟩ := hr.cells
                have H1 : Hid (s.bey = true ↔ Rch P P.n) := hbey
                have H2 : Hid (¬ Rch P P.n → (s.un = true ↔ BadD P) ∧ (s.un = false → Sol P s.L)) := hrest
                clear hbey hrest hinv hr hovn hE' hI' hov hS0 hp
                rcases hb : s.bey with _ | _
                · rw [hb] at q3
                  rcases hu : s.un with _ | _
                  · rw [hu] at q4
                    go_wp2
                    go_ret2
                    have hnr : ¬ Rch P P.n := fun h => by have := H1.out.2 h; rw [hb] at this; cases this
                    obtain ⟨h3, h4⟩ := H2.out hnr
                    have hsol := h4 hu
                    refine ⟨_, _, rfl, hbelw, .inr (.inr ⟨hnr, hsol.good g hnr, rfl, db, rfl, ?_⟩)⟩
                    have hd := HR.out.dep.eqv (G := dL P) (fun j hj => hsol.dL g hnr (by omega))
                    obtain ⟨cur, k1, k2, k3, k4, k5, k6⟩ := hd.block
                    exact Own.mk' k1 k2 k3 k4 (Nat.le_trans hbelp.size k5) k6
                  · rw [hu] at q4
                    go_wp2
                    go_ret2
                    have hnr : ¬ Rch P P.n := fun h => by have := H1.out.2 h; rw [hb] at this; cases this
                    obtain ⟨h3, h4⟩ := H2.out hnr
                    exact ⟨_, _, rfl, hbelw, .inr (.inl ⟨hnr, h3.1 hu, rfl, rfl⟩)⟩
                · rw [hb] at q3
                  go_wp2
                  go_ret2
                  exact ⟨_, _, rfl, hbelw, .inl ⟨H1.out.1 hb, rfl, rfl⟩⟩
end Go.Proofs.YtopggemomcoalaaGreat
