import Derived.Test.YtcibmbcfpecgpaaA3
import Derived.Test.YtcibmbcfpecgpaaK3
import Derived.BigQuiet
import Derived.BigRegion
namespace Go.Proofs.Ytcibmbcfpecgpaa
open Go.ChangeShapes Go.WideShapes Go.ChangeAt Go.RowKit
set_option linter.unusedVariables false

theorem run_append_hold {P : Program} (w : World) (base : Nat) (t ty e : TypeId) (i : TypeInfo) (z : Value) (size bytes : Nat) (ht : P.underlying t = some (.slice e)) (hi : P.info? e = some i) (hz : i.zero = some z)
    (hsize : i.size = size) (hby : i.bytes = bytes) (hzs : z.cells.size = size) (hsz : 0 < size)
    (v : Value) (n : Nat) (xs : List Value) (hown : w.ownsRow base e size v n xs)
    (a : Addr) (m c : Nat) (hm : 0 < m) (news : List Value) (hl : news.length = m * size) (hnews : ∀ j u, news[j]? = some u → w.cell? (a.add j) = some u) (h1 : ∀ u ∈ news, u.oneCell' = true)
    (h63 : n + m ≤ maxLen) (hbytes : (n + m) * bytes ≤ 140737488355328) (hbase : base ≤ w.heap.size) :
    ∃ v' w', (Builtin.append_ #[t, t] ty #[v, .slice (some a) m c]).run P w = .ok v' w' ∧ w'.ownsRow base e size v' (n + m) (xs ++ news) ∧ w.grownBy w' v.ownBlock ∧
      (v'.ownBlock = v.ownBlock ∨ v'.ownBlock = some w.heap.size) ∧ w'.ownsRow base e size v n xs := by
  subst hsize
  subst hby
  have hsmall : n + m ≤ 9223372036854775807 := by simp only [maxLen] at h63; omega
  have hlen : (xs ++ news).length = (n + m) * i.size := by rw [List.length_append, hown.1, hl, Nat.add_mul]
  have grown : ∀ (old : Nat), old < n + m → ∀ (row : Option Nat),
      (w.drew.alloc (.cells (xs.toArray ++ news.toArray ++ Builtin.zeroCells z.cells (grownCap w (n + m) old e - (n + m))) e)).ownsRow base e i.size
        (.slice (some ⟨w.heap.size, 0, none⟩) (n + m) (grownCap w (n + m) old e)) (n + m) (xs ++ news) ∧
      w.grownBy (w.drew.alloc (.cells (xs.toArray ++ news.toArray ++ Builtin.zeroCells z.cells (grownCap w (n + m) old e - (n + m))) e)) row := by
    intro old ho row
    have hge := grownCap_ge w (n + m) old e
    have hcm : grownCap w (n + m) old e ≤ maxLen := grownCap_le_maxLen w (n + m) old e h63
    refine ⟨⟨hlen, .inr ⟨w.heap.size, _, _, rfl, hbase, heap_alloc_new w.drew _, hge, hcm, ?_, ?_⟩⟩, ⟨rfl, rfl, rfl, by simp, fun k hk _ => Below.heap_alloc w.drew _ k hk⟩⟩
    · simp only [Array.size_append, List.size_toArray, size_zeroCells, hzs, hown.1, hl, ← Nat.add_mul]
      congr 1
      omega
    · simp only [Array.toList_append, List.append_assoc]
      rw [← List.append_assoc, ← hlen]
      exact List.take_left
  rcases hown.2 with ⟨rfl, rfl⟩ | ⟨g, cap, cur, rfl, hbg, hg, hnc, hcm, hcs, htake⟩
  · have hx : xs = [] := List.eq_nil_of_length_eq_zero (by simpa using hown.1)
    subst hx
    have hr := run_append_nil (P := P) w t ty e i z ht hi hz a m c news hl hnews (by omega) (by omega) (by have hb := hbytes; simp only [Nat.zero_add] at hb; omega)
    have hgr := grown 0 (by omega) (Value.ownBlock (.slice none 0 0))
    simp only [Nat.zero_add, List.nil_append, Array.empty_append] at hgr ⊢
    exact ⟨_, _, hr, hgr.1, hgr.2, Or.inr rfl, World.ownsRow_nil _ _ _ _⟩
  · by_cases hroom : n + m ≤ cap
    · have hfit : n * i.size + news.length ≤ cur.size := by rw [hl, hcs, ← Nat.add_mul]; exact Nat.mul_le_mul_right _ hroom
      have hr := run_append_room (P := P) w t ty e i ht hi g n cap cur hg a m c news hl hnews h1 hroom hfit
      refine ⟨_, _, hr, ⟨hlen, .inr ⟨g, cap, _, rfl, hbg, setRow_heap w g cur _ e _ hg, hroom, hcm, ?_, ?_⟩⟩, ⟨rfl, rfl, rfl, by simp, fun k _ hk => setRow_other w g k _ (fun e => hk (by simp [Value.ownBlock, e]))⟩, Or.inl rfl, ⟨hown.1, .inr ⟨g, cap, _, rfl, hbg, setRow_heap w g cur _ e _ hg, hnc, hcm, ?_, ?_⟩⟩⟩
      · simp only [List.size_toArray, List.length_append, List.length_take, List.length_drop, Array.length_toList]
        omega
      · rw [htake, ← hlen]
        exact List.take_left
      · simp only [List.size_toArray, List.length_append, List.length_take, List.length_drop, Array.length_toList]
        omega
      · rw [htake, List.append_assoc, ← hown.1]
        exact List.take_left
    · have holds : ∀ j u, xs[j]? = some u → w.cell? ((⟨g, 0, none⟩ : Addr).add j) = some u := hown.cells (g := g) rfl
      have hr := run_append_grow (P := P) w t ty e i z ht hi hz ⟨g, 0, none⟩ n cap xs hown.1 holds a m c news hl hnews (by omega) (by omega) (growslice_fits (by omega) hbytes)
      have hgr := grown cap (by omega) (Value.ownBlock (.slice (some ⟨g, 0, none⟩) n cap))
      exact ⟨_, _, hr, hgr.1, hgr.2, Or.inr rfl, ⟨hown.1, .inr ⟨g, cap, cur, rfl, hbg, (Below.heap_alloc w.drew _ g (Array.getElem?_eq_some_iff.1 hg).1).trans hg, hnc, hcm, hcs, htake⟩⟩⟩

def bMk (k x : Nat) : Value := .int .u8 ((41 * (k : Int) + 7 * (x : Int) + 1) % 256)
def bTl (k : Nat) : Value := .int .u8 ((200 + (k : Int)) % 256)
def bPart (m k x : Nat) : Value := if x < m then bMk k x else bTl k
theorem measB {n L : Nat} (h : n < L) : L - (intOf (.int .i64 ((n : Int) + 1))).toNat < L - (intOf (.int .i64 (n : Int))).toNat := by
  simp only [intOf]
  omega
structure B1 (w wr : World) (base Lb n k : Nat) (V : Nat → Value) (M : Nat → Nat) (F : Nat → Nat → Value) : Prop where
  ls : Lists wr base 5 1 n V M F
  full : ∀ j, j < k → ∀ x, x < M j → F j x = bMk j x
  bel : Below base w wr
  keep : wr.heap[Lb]? = w.heap[Lb]?
theorem B1.step {w wr : World} {base Lb n k i : Nat} {V : Nat → Value} {M : Nat → Nat} {F : Nat → Nat → Value} (h : B1 w wr base Lb n k V M F) (hk : k < n) (hi : i < M k) (hF : ∀ x, x < i → F k x = bMk k x) {g c : Nat} (hv : V k = .slice (some ⟨g, 0, none⟩) (M k) c) (hLo : ∀ k, k < n → (V k).ownBlock ≠ some Lb) :
    ∃ F', B1 w (wr.setCell ⟨g, i, none⟩ (bMk k i)) base Lb n k V M F' ∧ ∀ x, x < i + 1 → F' k x = bMk k x := by
  have hb : base ≤ g := by
    have := h.ls.own k hk
    rw [hv] at this
    obtain ⟨_, _, _, _, _, hb, _⟩ := this.block
    exact hb
  refine ⟨_, ⟨h.ls.put hk hv i [bMk k i], fun j hj x hx => ?_, setCells_below [bMk k i] i _ h.bel hb, ?_⟩, fun x hx => ?_⟩
  · rw [if_neg (by omega)]
    exact h.full j hj x hx
  · show (wr.setCells g i [bMk k i]).heap[Lb]? = _
    rw [setCells_other g _ _ _ Lb ?_]
    · exact h.keep
    · rintro rfl
      exact hLo k hk (by rw [hv]; rfl)
  · rw [if_pos rfl]
    unfold putF
    by_cases hc : i ≤ x ∧ x < i + [bMk k i].length
    · rw [if_pos hc]
      simp only [List.length_singleton] at hc
      obtain rfl : x = i := by omega
      simp
    · rw [if_neg hc]
      simp only [List.length_singleton] at hc
      exact hF x (by omega)
def DoneB (k : Nat) (M M' : Nat → Nat) (F' : Nat → Nat → Value) : Prop := ∀ j, j < k → M' j = M j + 70 ∧ ∀ x, x < M j + 70 → F' j x = bPart (M j) j x
theorem B1.to {w wr : World} {base Lb n : Nat} {V : Nat → Value} {M : Nat → Nat} {F : Nat → Nat → Value} (h : B1 w wr base Lb n n V M F) (hl : ∃ cur fr, w.heap[Lb]? = some (.cells cur 29 fr)) : P2 w wr base Lb 5 29 1 n 0 0 V M bMk V M bMk (.slice none 0 0) :=
  ⟨⟨fun j hj => (h.ls.own j hj).congr fun x hx => h.full j hj x (by omega), h.ls.apart⟩, ⟨fun j hj => by omega, fun j k hj => by omega⟩, fun j hj => by omega, fun j i hj => by omega, World.ownsRow_nil _ _ _ _, (by intro e; cases e), h.bel, h.keep, hl⟩
theorem infoB' : (Try.prog.info? 29).map (fun i => (i.zero, i.size, i.bytes)) = some (some (.slice none 0 0), 1, 24) := by kernel_rfl
theorem neB : (5 : TypeId) ≠ 29 := by decide
theorem P2.later {w wr w1 : World} {base Lb : Nat} {t tS : TypeId} {s n k mm : Nat} {V : Nat → Value} {M : Nat → Nat} {mark : Nat → Nat → Value} {V' : Nat → Value} {M' : Nat → Nat} {F' : Nat → Nat → Value} {mv : Value} (h : P2 w wr base Lb t tS s n k mm V M mark V' M' F' mv) (hb : Below wr.heap.size wr w1) (hbase : base ≤ wr.heap.size) (hLb : Lb < wr.heap.size) : P2 w w1 base Lb t tS s n k mm V M mark V' M' F' mv :=
  ⟨⟨fun j hj => (h.ls.own j hj).more hb, h.ls.apart⟩, ⟨fun j hj => (h.ls'.own j hj).more hb, h.ls'.apart⟩, h.pos, h.cross, h.more.more hb, h.notL, h.bel.trans (hb.mono hbase), (hb.block Lb hLb).trans h.keep, h.lbt⟩
theorem P2.still {w wr : World} {base Lb : Nat} {t tS : TypeId} {s n k mm : Nat} {V : Nat → Value} {M : Nat → Nat} {mark : Nat → Nat → Value} {V' : Nat → Value} {M' : Nat → Nat} {F' : Nat → Nat → Value} {mv : Value} (h : P2 w wr base Lb t tS s n k mm V M mark V' M' F' mv) (q : Nat) : P2 w (wr.drewN q) base Lb t tS s n k mm V M mark V' M' F' mv :=
  ⟨⟨fun j hj => (h.ls.own j hj).far fun _ _ => rfl, h.ls.apart⟩, ⟨fun j hj => (h.ls'.own j hj).far fun _ _ => rfl, h.ls'.apart⟩, h.pos, h.cross, h.more.far fun _ _ => rfl, h.notL, h.bel.trans ⟨rfl, rfl, rfl, Nat.le_refl _, fun _ _ => rfl⟩, h.keep, h.lbt⟩
/-- a list grows by 70 marks -/
theorem P2.tails {w wr : World} {base Lb n k tb : Nat} {V : Nat → Value} {M : Nat → Nat} {V' : Nat → Value} {M' : Nat → Nat} {F' : Nat → Nat → Value} {mv : Value} (h : P2 w wr base Lb 5 29 1 n k k V M bMk V' M' F' mv) (hd : DoneB k M M' F') (hk : k < n) (hM : M k ≤ 1000000000) (hbase : base ≤ wr.heap.size) (hT : ∀ j, j < 70 → wr.cell? ⟨tb, j, none⟩ = some (bTl k)) :
    ∃ v' w1, (Builtin.append_ #[29, 29] 29 #[V k, .slice (some ⟨tb, 0, none⟩) 70 70]).run Try.prog wr = .ok v' w1 ∧ (∃ g c, v' = .slice (some ⟨g, 0, none⟩) (M k + 70) c) ∧ wr.heap.size ≤ w1.heap.size ∧
      P2 w w1 base Lb 5 29 1 n (k + 1) k V M bMk (ext V' k v') (ext M' k (M k + 70)) (ext F' k (bPart (M k) k)) mv ∧ DoneB (k + 1) M (ext M' k (M k + 70)) (ext F' k (bPart (M k) k)) := by
  obtain ⟨i0, hi, hz, hs, hb⟩ := infoQ Try.info5'
  obtain ⟨v', w1, hr, hown, hg, hat, hold⟩ := run_append_hold (P := Try.prog) wr base 29 29 5 i0 (.int .u8 0) 1 1 Try.underlying29 hi hz hs hb rfl (by decide) (V k) (M k) _ (h.ls.own k hk) ⟨tb, 0, none⟩ 70 70 (by decide) (cellsF (fun _ => bTl k) 70) (cellsF_len _ _)
    (fun j u hj => by
      have hlt : j < 70 := by
        have := (List.getElem?_eq_some_iff.1 hj).1
        rw [cellsF_len] at this
        exact this
      rw [cellsF_at _ hlt] at hj
      rw [addr_add0, Nat.zero_add, hT j hlt]
      exact hj)
    (fun u hu => by
      unfold cellsF at hu
      obtain ⟨j, _, rfl⟩ := List.mem_map.1 hu
      rfl) (by unfold maxLen; omega) (by omega) hbase
  rw [cellsF_append] at hown
  have ho : Own w1 base 5 1 v' (M k + 70) (bPart (M k) k) := by
    have h1 : Own w1 base 5 1 v' (M k + 70) (fun j => if j < M k * 1 then bMk k j else bTl k) := by
      unfold Own
      rw [Nat.add_mul]
      exact hown
    refine h1.congr fun x hx => ?_
    unfold bPart
    rw [Nat.mul_one]
  have hform : ∃ g c, v' = .slice (some ⟨g, 0, none⟩) (M k + 70) c := by
    rcases ho.form with ⟨_, h2⟩ | ⟨g, c, h2, _⟩
    · omega
    · exact ⟨g, c, h2⟩
  refine ⟨v', w1, hr, hform, hg.size, h.grow neB hk (Nat.le_refl _) hbase ho hold hg hat ?_, fun j hj => ?_⟩
  · obtain ⟨g, c, rfl⟩ := hform
    intro e
    cases e
  · by_cases e : j = k
    · subst e
      rw [ext_at, ext_at]
      exact ⟨rfl, fun _ _ => rfl⟩
    · rw [ext_ne _ _ _ e, ext_ne _ _ _ e]
      exact hd j (by omega)
/-- what the last look reads -/
theorem P2.readsB {w wr : World} {base Lb n a : Nat} {V : Nat → Value} {M : Nat → Nat} {V' : Nat → Value} {M' : Nat → Nat} {F' : Nat → Nat → Value} {mv : Value} (h : P2 w wr base Lb 5 29 1 n n n V M bMk V' M' F' mv) (hd : DoneB n M M' F') (ha : a < n) :
    ∃ hb hc g c p cl, mv = .slice (some ⟨hb, 0, none⟩) n hc ∧ wr.cell? ⟨hb, a, none⟩ = some (.slice (some ⟨g, 0, none⟩) (M a + 70) c) ∧ V a = .slice p (M a) cl ∧
      (∀ i, i < M a → ∃ gl, p = some ⟨gl, 0, none⟩ ∧ wr.cell? ⟨gl, i, none⟩ = some (bMk a i) ∧ wr.cell? ⟨g, i, none⟩ = some (bMk a i)) ∧
      (∀ i, M a ≤ i → i < M a + 70 → wr.cell? ⟨g, i, none⟩ = some (bTl a)) := by
  obtain ⟨hb, hc, hmv⟩ : ∃ hb hc, mv = .slice (some ⟨hb, 0, none⟩) n hc := by
    rcases h.more.form with ⟨_, h2⟩ | ⟨g, c, h2, _⟩
    · omega
    · exact ⟨g, c, h2⟩
  have hmo := h.more
  rw [hmv] at hmo
  have ho' := h.ls'.own a ha
  obtain ⟨hM', hF'⟩ := hd a ha
  rw [hM'] at ho'
  obtain ⟨g, c, hv'⟩ : ∃ g c, V' a = .slice (some ⟨g, 0, none⟩) (M a + 70) c := by
    rcases ho'.form with ⟨_, h2⟩ | ⟨g, c, h2, _⟩
    · omega
    · exact ⟨g, c, h2⟩
  rw [hv'] at ho'
  have ho := h.ls.own a ha
  have hcell := hmo.cell (j := a) (by omega)
  rw [hv'] at hcell
  have cg : ∀ x, x < M a + 70 → wr.cell? ⟨g, x, none⟩ = some (bPart (M a) a x) := fun x hx => by rw [← hF' x hx]; exact ho'.cell (by omega)
  obtain ⟨p, cl, hv, hp⟩ : ∃ p cl, V a = .slice p (M a) cl ∧ (0 < M a → ∃ gl, p = some ⟨gl, 0, none⟩ ∧ ∀ x, x < M a → wr.cell? ⟨gl, x, none⟩ = some (bMk a x)) := by
    rcases ho.form with ⟨h1, h2⟩ | ⟨gl, cl, h1, _⟩
    · exact ⟨none, 0, by rw [h1, h2], fun h => by omega⟩
    · refine ⟨_, _, h1, fun _ => ⟨gl, rfl, fun x hx => ?_⟩⟩
      rw [h1] at ho
      exact ho.cell (by omega)
  refine ⟨hb, hc, g, c, p, cl, hmv, hcell, hv, fun i hi => ?_, fun i h1 h2 => ?_⟩
  · obtain ⟨gl, hpl, hg⟩ := hp (by omega)
    refine ⟨gl, hpl, hg i hi, ?_⟩
    rw [cg i (by omega)]
    unfold bPart
    rw [if_pos hi]
  · rw [cg i h2]
    unfold bPart
    rw [if_neg (by omega)]
end Go.Proofs.Ytcibmbcfpecgpaa
