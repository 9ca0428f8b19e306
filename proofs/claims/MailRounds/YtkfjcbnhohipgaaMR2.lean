import Derived.Test.YtkfjcbnhohipgaaMR1b
import Derived.ArgAppend
import Derived.BigQuiet
import Derived.Deep.RegionLaw
import Derived.Deep.RegionHeld3
import Derived.Deep.Cut
import Derived.Deep.DeepCutAuto
import Derived.Deep.CutBlock
import Derived.Deep.CutRange
import Derived.Deep.AppendLies
import Derived.Handy
import Derived.Lib.RabinKarpLaws
namespace Go.Proofs.Ytkfjcbnhohipgaa
open Go.ChangeShapes Go.WideShapes Go.ChangeAt Go.RowKit
set_option linter.unusedVariables false
set_option linter.unusedSimpArgs false


theorem wpList_app9 {P : Program} {w : World} {ops : Array Oper} {rest : List Oper} {o : Oper} {a : Act} {Q : Exit → Act → World → Prop} (hgd : o.guard = none) (s x : Operand) (t : TypeId)
    (ho : o.op = .call { callee := .builtin .append, args := #[s, x], argTypes := #[t, t] }) (base : Nat) (e : TypeId) (i : TypeInfo) (z : Value) (size bytes : Nat) (ht : P.underlying t = some (.slice e)) (hi : P.info? e = some i) (hz : i.zero = some z)
    (hsize : i.size = size) (hby : i.bytes = bytes) (hzs : z.cells.size = size) (hsz : 0 < size) (v : Value) (n : Nat) (xs : List Value) (hs : a.eval s = v) (hown : w.ownsRow base e size v n xs)
    (ad : Addr) (m c : Nat) (news : List Value) (hx : a.eval x = .slice (some ad) m c) (hl : news.length = m * size) (hnews : ∀ j u, news[j]? = some u → w.cell? (ad.add j) = some u) (h1 : ∀ u ∈ news, u.oneCell' = true)
    (h63 : n + m ≤ maxLen) (hbytes : (n + m) * bytes ≤ 140737488355328) (hbase : base ≤ w.heap.size)
    (h : ∀ v' w', w'.ownsRow base e size v' (n + m) (xs ++ news) → w.grownBy w' v.ownBlock → (v'.ownBlock = v.ownBlock ∨ v'.ownBlock = some w.heap.size) → wpList P ops Q rest (a.put o.dst v') w') : wpList P ops Q (o :: rest) a w := by
  obtain ⟨v', w', hr, h2, h3, _, h5⟩ := run_append_own_at (P := P) w base t o.type e i z size bytes ht hi hz hsize hby hzs hsz v n xs hown ad m c news hl hnews h1 h63 hbytes hbase
  refine wpList_plain hgd fun K hK => ?_
  unfold Oper.wp
  simp [execOp, ho, resolve, invoke, builtin, hs, hx, hr, Result.andThen]
  exact hK _ _ (h _ _ h2 h3 h5)

def NIn (W : World) (q : Option Addr) (N : Nat) (X : Nat → Nt) : Prop := N = 0 ∨ ∃ b o, q = some ⟨b, o, none⟩ ∧ b < W.heap.size ∧ ∀ t, t < N → W.cell? ⟨b, o + t * 4, none⟩ = some (.int .i64 (X t).r) ∧ W.cell? ⟨b, o + t * 4 + 1, none⟩ = some (.int .i64 (X t).f) ∧ W.cell? ⟨b, o + t * 4 + 2, none⟩ = some (.int .i64 (X t).t) ∧ W.cell? ⟨b, o + t * 4 + 3, none⟩ = some (.int .i64 (X t).k)
theorem NIn.later {W W' : World} {q : Option Addr} {N : Nat} {X : Nat → Nt} (h : NIn W q N X) (hb : Below W.heap.size W W') : NIn W' q N X := by
  rcases h with h | ⟨b, o, rfl, hl, hc⟩
  · exact .inl h
  · exact .inr ⟨b, o, rfl, Nat.lt_of_lt_of_le hl hb.size, fun t ht => by
      obtain ⟨h1, h2, h3, h4⟩ := hc t ht
      exact ⟨(hb.cell (p := ⟨b, o + t * 4, none⟩) hl).trans h1, (hb.cell (p := ⟨b, o + t * 4 + 1, none⟩) hl).trans h2, (hb.cell (p := ⟨b, o + t * 4 + 2, none⟩) hl).trans h3, (hb.cell (p := ⟨b, o + t * 4 + 3, none⟩) hl).trans h4⟩⟩
/-- a course in its box -/
def CrAt (W : World) (b : Nat) (wk rn : Int) (q : Option Addr) (N cq : Nat) (pq : Option Addr) (pn pc : Nat) : Prop := W.heap[b]? = some (.cells #[.int .i64 wk, .int .i64 rn, .slice q N cq, .slice pq pn pc] 47 (0, 0))
theorem CrAt.cells {W : World} {b : Nat} {wk rn : Int} {q : Option Addr} {N cq : Nat} {pq : Option Addr} {pn pc : Nat} (h : CrAt W b wk rn q N cq pq pn pc) : W.cell? ⟨b, 0, none⟩ = some (.int .i64 wk) ∧ W.cell? ⟨b, 1, none⟩ = some (.int .i64 rn) ∧ W.cell? ⟨b, 2, none⟩ = some (.slice q N cq) ∧ W.cell? ⟨b, 3, none⟩ = some (.slice pq pn pc) := by
  unfold CrAt at h
  refine ⟨?_, ?_, ?_, ?_⟩
  all_goals (unfold World.cell?; rw [h]; rfl)
def iLF (l : List Nat) (j : Nat) : Value := .int .i64 ((l.getD j 0 : Nat) : Int)
theorem iLF_app (l : List Nat) (a : Nat) (m : Nat) (hm : l.length = m) (xs : List Value) (hxs : xs = cellsF (iLF l) (m * 1)) : ∀ j, j < (m + 1) * 1 → (xs ++ ([.int .i64 (a : Int)] : List Value)).getD j undef = iLF (l ++ [a]) j := fun j hj => by
  subst hxs
  rw [List.getD_eq_getElem?_getD]
  unfold iLF
  rw [List.getD_eq_getElem?_getD]
  by_cases h1 : j < m
  · rw [List.getElem?_append_left (by rw [cellsF_len]; omega), cellsF_at _ (by omega), List.getElem?_append_left (by omega), Option.getD_some, List.getD_eq_getElem?_getD]
  · obtain rfl : j = m := by omega
    rw [List.getElem?_append_right (by rw [cellsF_len]; omega), cellsF_len, show j - j * 1 = 0 by omega, List.getElem?_append_right (by omega), show j - l.length = 0 by omega]
    rfl
set_option maxRecDepth 100000 in
set_option maxHeartbeats 4000000 in
theorem mine_any (wk rn : Int) (q : Option Addr) (N cq : Nat) (pq : Option Addr) (pn pc : Nat) (X : Nat → Nt) (p i : Nat) (hN : N ≤ 1000) (W : World) (h : NIn W q N X) : Calls Try.prog 40 #[.agg #[.int .i64 wk, .int .i64 rn, .slice q N cq, .slice pq pn pc], .int .i64 (p : Int), .int .i64 (i : Int)] W fun e W' => ∃ v, e = .returned v ∧ Own W' W.heap.size 3 1 v (onN X N i p) (iLF (ownN X N p i)) ∧ Below W.heap.size W W' := by
  obtain ⟨iT, hT1, hT2, hT3, hT4⟩ := binfo infoIN
  obtain ⟨SB, hSB⟩ : ∃ SB, W.heap.size = SB := ⟨_, rfl⟩
  obtain ⟨W1, hW1⟩ : ∃ W1, W.alloc (.cells #[.int .i64 wk, .int .i64 rn, .slice q N cq, .slice pq pn pc] 47) = W1 := ⟨_, rfl⟩
  have hb1 : Below SB W W1 := by rw [← hW1, ← hSB]; exact (Below.refl _ W).alloc (Nat.le_refl _) _
  have hc1 : CrAt W1 SB wk rn q N cq pq pn pc := by rw [← hW1, ← hSB]; exact World.alloc_heap_new W _
  have HH : Hid (NIn W q N X ∧ W.heap.size = SB ∧ N ≤ 1000) := ⟨h, hSB, hN⟩
  have H1 := mhid (And.intro hb1 hc1)
  have HW1 := mhid hW1
  rw [hSB]
  clear h hN hb1 hc1 hW1
  go_enter Try.func40, Try.ntmps40
  go_upto_region 1 with fail
  rw [HW1.out]
  clear hSB
  go_wp2_with fail
  go_loopw [7, 8] (fun a y wr => ∃ j : Nat, y = .int .i64 (j : Int) ∧ j ≤ N ∧ Own wr SB 3 1 a (onN X j i p) (iLF (ownN X j p i)) ∧ Below SB W wr ∧ CrAt wr SB wk rn q N cq pq pn pc) (fun _ y _ => N - (intOf y).toNat)
  case atStart => exact ⟨0, rfl, Nat.zero_le _, ⟨rfl, .inl ⟨rfl, rfl⟩⟩, H1.out.1, H1.out.2⟩
  case round =>
    obtain ⟨j, rfl, hj, how, hbr, hcr⟩ := hrel
    obtain ⟨c0, c1, c2, c3⟩ := hcr.cells
    have HR := mhid (And.intro how (And.intro hbr hcr))
    by_cases hlt : j < N
    · have dl : decide ((j : Int) < (N : Int)) = true := by simp; omega
      have dln : decide (j < N) = true := by simp; omega
      have hme := meas hlt
      have hN := HH.out.2.2
      have ek : IntKind.i64.wrap ((j : Int) + 1) = (j : Int) + 1 := by rw [IntKind.wrap_i64]; omega
      have k0 : (0 : Int) ≤ (j : Int) := by omega
      have k1 : (j : Int) < (N : Int) := by omega
      have hin : NIn wr q N X := HH.out.1.later (by rw [HH.out.2.1]; exact hbr)
      rcases hin with h0 | ⟨nb, no, rfl, hnl, hnc⟩
      · omega
      obtain ⟨y0, y1, -, -⟩ := hnc j hlt
      have hsu := own_succ X j p i
      have hon : onN X j i p ≤ j := ownN_len X j p i
      have hlen : (ownN X j p i).length = onN X j i p := rfl
      obtain ⟨a, ha⟩ : ∃ a, (X j).r = a := ⟨_, rfl⟩
      obtain ⟨b, hb⟩ : ∃ b, (X j).f = b := ⟨_, rfl⟩
      rw [ha, hb] at hsu
      rw [ha] at y0
      rw [hb] at y1
      have hSBw : SB ≤ wr.heap.size := by have := hbr.size; rw [← HH.out.2.1]; exact this
      have NEXT : Hid (∀ w v, (a == (p : Int) && b == (i : Int)) = false → Own w SB 3 1 v (onN X j i p) (iLF (ownN X j p i)) → Own w SB 3 1 v (onN X (j + 1) i p) (iLF (ownN X (j + 1) p i))) := fun w v e9 o9 => by
        have e8 : ownN X (j + 1) p i = ownN X j p i := by rw [hsu, e9]; simp
        unfold onN at o9 ⊢
        rw [e8]
        exact o9
      have NEXT2 : Hid ((a == (p : Int) && b == (i : Int)) = true → ∀ w v, Own w SB 3 1 v (onN X j i p + 1) (iLF (ownN X j p i ++ [j])) → Own w SB 3 1 v (onN X (j + 1) i p) (iLF (ownN X (j + 1) p i))) := fun e9 w v o9 => by
        have e8 : ownN X (j + 1) p i = ownN X j p i ++ [j] := by rw [hsu, e9]; simp
        unfold onN at o9 ⊢
        rw [e8, List.length_append]
        exact o9
      have HLT := mhid (And.intro hlt (And.intro hon hSBw))
      clear how hbr hcr hlt hj hN hnl hnc ha hb hsu hon hlen hSBw
      by_cases e1 : a = (p : Int)
      · have q1 : (a == (p : Int)) = true := by simp [e1]
        by_cases e2 : b = (i : Int)
        · have q2 : (b == (i : Int)) = true := by simp [e2]
          have N2 := mhid (NEXT2.out (by rw [q1, q2]; rfl))
          clear e1 e2 NEXT NEXT2
          go_upto_region 4 with (at_builtin; refine wpList_app9 rfl (.tmp 34) (.tmp 36) 45 rfl SB 3 iT _ 1 8 Try.underlying45 hT1 hT2 hT3 hT4 rfl (by decide) u7 (onN X j i p) (cellsF (iLF (ownN X j p i)) (onN X j i p * 1)) rfl (HR.out.1.later ((Below.refl _ wr).alloc (Nat.le_refl _) _)) ⟨wr.heap.size, 0, none⟩ 1 1 [.int .i64 (j : Int)] rfl rfl (cells_new9 wr [.int .i64 (j : Int)] 3) (by simp [Value.oneCell']) (by have h8 := HLT.out; have h9 := HH.out.2.2; unfold maxLen; omega) (by have h8 := HLT.out; have h9 := HH.out.2.2; omega) (by rw [World.size_alloc]; exact Nat.le_succ_of_le HLT.out.2.2) ?_; intro v6 w6 hown' hgrow hat)
          have hbA : Below wr.heap.size wr (wr.alloc (.cells #[.int .i64 (j : Int)] 3)) := (Below.refl _ wr).alloc (Nat.le_refl _) _
          have hcA : CrAt (wr.alloc (.cells #[.int .i64 (j : Int)] 3)) SB wk rn (some ⟨nb, no, none⟩) N cq pq pn pc := (hbA.block _ (lt_of_block HR.out.2.2)).trans HR.out.2.2
          have oA := HR.out.1.later hbA
          have h6 : Own w6 SB 3 1 v6 (onN X j i p + 1) (iLF (ownN X j p i ++ [j])) := (own_of_row hown').congr (iLF_app (ownN X j p i) j (onN X j i p) rfl _ rfl)
          have hc6 : CrAt w6 SB wk rn (some ⟨nb, no, none⟩) N cq pq pn pc := (hgrow.block _ (lt_of_block hcA) fun e => oA.apart hcA (by decide) SB e.symm rfl).trans hcA
          have b6 : Below SB W w6 := (HR.out.2.1.trans (hbA.mono HLT.out.2.2)).trans ((Below.refl SB _).grown hgrow (Nat.le_trans HLT.out.2.2 hbA.size) fun k hk => (HR.out.1.lt k hk).1)
          have H6 := mhid (And.intro (N2.out w6 v6 h6) (And.intro b6 hc6))
          clear hbA hcA oA h6 hc6 b6 hown' hgrow hat y0 y1 c0 c1 c2 c3
          go_wp2_with fail
          exact ⟨⟨j + 1, rfl, HLT.out.1, H6.out.1, H6.out.2.1, H6.out.2.2⟩, hme⟩
        · have q2 : (b == (i : Int)) = false := by simp [e2]
          have N1 := mhid (NEXT.out wr u7 (by rw [q1, q2]; rfl) HR.out.1)
          clear e1 e2 NEXT NEXT2
          go_wp2_with fail
          exact ⟨⟨j + 1, rfl, HLT.out.1, N1.out, HR.out.2.1, HR.out.2.2⟩, hme⟩
      · have q1 : (a == (p : Int)) = false := by simp [e1]
        have N1 := mhid (NEXT.out wr u7 (by rw [q1]; rfl) HR.out.1)
        clear e1 NEXT NEXT2
        go_wp2_with fail
        exact ⟨⟨j + 1, rfl, HLT.out.1, N1.out, HR.out.2.1, HR.out.2.2⟩, hme⟩
    · have dl : decide ((j : Int) < (N : Int)) = false := by simp; omega
      have dln : decide (j < N) = false := by simp; omega
      obtain rfl : j = N := by omega
      clear how hbr hcr hlt hj
      go_wp2_with fail
      go_ret
      exact ⟨_, rfl, HR.out.1, HR.out.2.1⟩
end Go.Proofs.Ytkfjcbnhohipgaa
