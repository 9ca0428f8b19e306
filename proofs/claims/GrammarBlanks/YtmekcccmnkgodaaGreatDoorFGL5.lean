import Derived.Test.YtmekcccmnkgodaaGreatDoorFGF1
import Derived.Test.YtmekcccmnkgodaaGreatDoorFSB1
import Derived.Test.YtmekcccmnkgodaaGreatDoorFG4
import Derived.Test.YtmekcccmnkgodaaGreatDoorFG3
import Derived.Test.YtmekcccmnkgodaaGreatDoorFGB6
import Derived.Test.YtmekcccmnkgodaaGreatDoorFGPV
import Derived.Test.YtmekcccmnkgodaaGreatDoorFLRead
import Derived.Test.YtmekcccmnkgodaaGreatDoorTie
import Derived.Deep.DeepHandedRow
import Derived.Lay
import Derived.LaidHandle
import Derived.Stop.LaidErr
namespace Go.Proofs.YtmekcccmnkgodaaGreatDoor
open Go.ChangeShapes Go.WideShapes Go.ChangeAt Go.RowKit
set_option linter.unusedVariables false
set_option linter.unusedSimpArgs false
set_option maxRecDepth 100000
/-! ### places mean nothing: what is answered, and what is called -/
def lText : Bs := [108, 111, 111, 107, 32, 53]
def lToks : List Tk × Option Er := scanF 40 lText 1 1 0
theorem l_scan : scanT lText = lToks := by
  unfold scanT lToks
  rw [if_neg (by decide), scanF_eq 40 lText 1 1 0 (by decide)]
theorem l_none : lToks.2 = none := by decide +kernel
theorem l_len : lToks.1.length = 2 := by decide +kernel
def isTr (R : Pr (List Nat)) (k : Nat) : Bool := match R with
  | .ok s v => decide (s.md.length = k)
  | _ => false
theorem l_ok : isTr (P (fun i => lToks.1.getD i nT) 2 200 .scene ⟨0, 0, []⟩) 2 = true := by decide +kernel
theorem l_known : ∃ T, prsR lText 199 = .tr T ∧ T.length = 2 := by
  unfold prsR
  rw [l_scan, l_none]
  dsimp only
  unfold bldR
  have hB : Bld (fun i => lToks.1.getD i nT) lToks.1.length 199 = P (fun i => lToks.1.getD i nT) 2 200 .scene ⟨0, 0, []⟩ := by
    unfold Bld
    rw [l_len, if_neg (by omega)]
  rw [hB]
  have hk := l_ok
  cases hr : P (fun i => lToks.1.getD i nT) 2 200 .scene ⟨0, 0, []⟩ with
  | out => rw [hr] at hk; cases hk
  | bad e => rw [hr] at hk; cases hk
  | ok s v =>
    rw [hr] at hk hB
    obtain ⟨d, hW⟩ := bld_ok hB
    obtain ⟨n1, t1, -, -, e3, -, -⟩ := hW.form
    exact ⟨trOf s v, rfl, by rw [e3]; exact of_decide_eq_true hk⟩
theorem l_parse (w : World) (g : Gr w) (he : Et w) : Calls Tryz.prog 7 #[.string ⟨#[108, 111, 111, 107, 32, 53]⟩] w fun e w' => ∃ tp tc, e = .returned (.tuple #[.agg #[.slice tp 2 tc], .nilIface]) ∧ Below w.heap.size w w' := by
  have h := parse_any lText (by unfold maxLen; decide) 199 (fun ts h => by rw [l_scan] at h; have e : lToks.1 = ts := congrArg Prod.fst h; have e2 := l_len; rw [e] at e2; omega) w g he
  obtain ⟨T, hT, h3⟩ := l_known
  rw [hT] at h
  refine h.mono fun e w' h => ?_
  obtain ⟨hb, tp, tc, vs, h1, _⟩ := h
  rw [h3] at h1
  exact ⟨tp, tc, h1, hb⟩
def mvT (L C : Int) (X : Nat → Tk) (i : Nat) : Tk := { X i with line := L, col := C }
theorem bl_cases (X : Nat → Tk) (L C : Int) (n : Nat) (hn : n ≤ 16384) :
    (∃ c l o l' o', bldR X n 400000 = .er c l o ∧ bldR (mvT L C X) n 400000 = .er c l' o') ∨
    ∃ T U, bldR X n 400000 = .tr T ∧ bldR (mvT L C X) n 400000 = .tr U ∧ T.map stp = U.map stp ∧ ∃ d t, U = d :: t ∧ d.line = 1 ∧ d.col = 1 ∧ ∀ x ∈ t, x.line = L ∧ x.col = C := by
  rcases bld_sim (X := X) (X' := mvT L C X) (n := n) (F := 400000) (fun i => ⟨rfl, rfl, rfl⟩) hn (by omega) with ⟨e, e', h1, h2, h3⟩ | ⟨s, s', v, h1, h2, h3⟩
  · left
    refine ⟨e.code, e.line, e.col, e'.line, e'.col, ?_, ?_⟩
    · unfold bldR; rw [h1]; rfl
    · unfold bldR; rw [h2, h3]; rfl
  · right
    refine ⟨trOf s v, trOf s' v, ?_, ?_, h3, ?_⟩
    · unfold bldR; rw [h1]; rfl
    · unfold bldR; rw [h2]; rfl
    · exact bld_places (X := mvT L C X) (fun i => ⟨rfl, rfl⟩) h2
/-- the tokens, the first k of them moved -/
def mvF (L C : Int) (F : Nat → Value) (k : Nat) (j : Nat) : Value := if j / 5 < k ∧ j % 5 = 3 then .int .i64 L else if j / 5 < k ∧ j % 5 = 4 then .int .i64 C else F j
theorem mv_zero (L C : Int) (F : Nat → Value) (j : Nat) : F j = mvF L C F 0 j := by
  unfold mvF
  rw [if_neg (by omega), if_neg (by omega)]
theorem mv_put {W : World} {base g n c k : Nat} {L C : Int} {F : Nat → Value} (h : Own W base 40 5 (.slice (some ⟨g, 0, none⟩) n c) n (mvF L C F k)) :
    Own ((W.setCell ⟨g, k * 5 + 3, none⟩ (.int .i64 L)).setCell ⟨g, k * 5 + 4, none⟩ (.int .i64 C)) base 40 5 (.slice (some ⟨g, 0, none⟩) n c) n (mvF L C F (k + 1)) := by
  refine ((h.put (k * 5 + 3) [.int .i64 L]).put (k * 5 + 4) [.int .i64 C]).congr fun j hj => ?_
  unfold putF
  simp only [List.length_cons, List.length_nil]
  by_cases h4 : j = k * 5 + 4
  · subst h4
    rw [if_pos (by omega)]
    unfold mvF
    rw [if_neg (by omega), if_pos (by omega)]
    simp
  · rw [if_neg (by omega)]
    by_cases h3 : j = k * 5 + 3
    · subst h3
      rw [if_pos (by omega)]
      unfold mvF
      rw [if_pos (by omega)]
      simp
    · rw [if_neg (by omega)]
      unfold mvF
      by_cases h5 : j / 5 < k
      · have q1 : j / 5 < k + 1 := by omega
        simp only [h5, q1, true_and]
      · have q1 : ¬ (j / 5 < k + 1 ∧ j % 5 = 3) := by omega
        have q2 : ¬ (j / 5 < k + 1 ∧ j % 5 = 4) := by omega
        rw [if_neg (by omega), if_neg (by omega), if_neg q1, if_neg q2]
theorem mv_tx {W : World} {base g n c : Nat} {L C : Int} {ts : List Tk} (hn : ts.length = n) (h : Own W base 40 5 (.slice (some ⟨g, 0, none⟩) n c) n (mvF L C (TF ts) n)) : TX W (some ⟨g, 0, none⟩) n (mvT L C fun i => ts.getD i nT) := by
  refine own_tx h (Nat.le_refl _) fun i r hi hr => ?_
  have ht : ts[i]? = some (ts.getD i nT) := by rw [List.getD_eq_getElem?_getD, List.getElem?_eq_getElem (by omega)]; rfl
  have h9 := tks_at ts i r _ ht hr
  have q : (i * 5 + r) / 5 = i := by omega
  have q2 : (i * 5 + r) % 5 = r := by omega
  unfold mvF
  rw [q, q2, h9]
  rcases (by omega : r = 0 ∨ r = 1 ∨ r = 2 ∨ r = 3 ∨ r = 4) with rfl | rfl | rfl | rfl | rfl
  · rw [if_neg (by omega), if_neg (by omega)]; rfl
  · rw [if_neg (by omega), if_neg (by omega)]; rfl
  · rw [if_neg (by omega), if_neg (by omega)]; rfl
  · rw [if_pos ⟨hi, rfl⟩]; rfl
  · rw [if_neg (by omega), if_pos ⟨hi, rfl⟩]; rfl
/-- all that is called, where the text is taken -/
structure BCtx (src s : Bs) (ts : List Tk) (n : Nat) (L C : Int) (w : World) : Prop where
  hn : ts.length = n
  n1 : n ≤ 16384
  p0 : Calls Tryz.prog 7 #[.string ⟨#[108, 111, 111, 107, 32, 53]⟩] w fun e w' => ∃ tp tc, e = .returned (.tuple #[.agg #[.slice tp 2 tc], .nilIface]) ∧ Below w.heap.size w w'
  sc : ∀ W, Below w.heap.size w W → Calls Tryz.prog 9 #[.string ⟨src.toArray⟩] W fun e w' => ∃ p c, e = .returned (.tuple #[.slice p n c, .nilIface]) ∧ TX w' p n (fun i => ts.getD i nT) ∧ TkIn w' p n (TF ts) ∧ Below W.heap.size W w'
  p1 : ∀ W, Below w.heap.size w W → Calls Tryz.prog 7 #[.string ⟨src.toArray⟩] W (ResP W (bldR (fun i => ts.getD i nT) n 400000))
  sp : ∀ W p c, Below w.heap.size w W → TX W p n (fun i => ts.getD i nT) → Calls Tryz.prog 14 #[.slice p n c] W fun e w' => e = .returned (.tuple #[.string ⟨s.toArray⟩, .int .i64 0]) ∧ Below W.heap.size W w'
  p2 : ∀ W, Below w.heap.size w W → Calls Tryz.prog 7 #[.string ⟨s.toArray⟩] W (ResP W (bldR (fun i => ts.getD i nT) n 400000))
  ct : ∀ W p c, TkIn W p n (TF ts) → Calls Tryz.prog 16 #[.slice p n c] W fun e w' => ∃ g, e = .returned (.slice (some ⟨g, 0, none⟩) n n) ∧ Own w' W.heap.size 40 5 (.slice (some ⟨g, 0, none⟩) n n) n (TF ts) ∧ Below W.heap.size W w'
  bu : ∀ W p c, Below w.heap.size w W → TX W p n (mvT L C fun i => ts.getD i nT) → Calls Tryz.prog 10 #[.slice p n c] W (ResP W (bldR (mvT L C fun i => ts.getD i nT) n 400000))
theorem bctx (src : Bs) (ts : List Tk) (hR : scanT src = (ts, none)) (L C : Int) (hL : -9223372036854775808 ≤ L ∧ L ≤ 9223372036854775807) (hC : -9223372036854775808 ≤ C ∧ C ≤ 9223372036854775807) (w : World) (g : Gr w) (he : Et w) : ∃ s, BCtx src s ts ts.length L C w := by
  obtain ⟨s, hsp, hsl, hss⟩ := spell_back src ts hR
  have hl6 := scanT_len hR
  have hls := scanT_len hss
  have hn : ts.length ≤ 16384 := by
    have := scanT_count src
    rw [hR] at this
    exact this
  have hpr : ∀ (x : Bs), scanT x = (ts, none) → ∀ W, Below w.heap.size w W → Calls Tryz.prog 7 #[.string ⟨x.toArray⟩] W (ResP W (bldR (fun i => ts.getD i nT) ts.length 400000)) := fun x hx W hW => by
    have hlx := scanT_len hx
    have h := parse_any x (by unfold maxLen; omega) 400000 (fun ts' h => by rw [hx] at h; injection h with h1 h2; rw [← h1]; omega) W (g.keep hW) (he.keep hW)
    unfold prsR at h
    rw [hx] at h
    exact h
  refine ⟨s, rfl, hn, l_parse w g he, fun W hW => ?_, hpr src hR, fun W p c hW hT => ?_, hpr s hss, fun W p c h => copyTokens_any p ts.length c (TF ts) (by omega) W h (tf_sh ts), fun W p c hW hT => buildR_any W hT (by unfold maxLen; omega) (fun i hi => ?_) (g.keep hW).sp (he.keep hW) (by omega)⟩
  · refine (scan_any src (by unfold maxLen; omega) W (g.keep hW)).mono fun e w' ⟨hb, h⟩ => ?_
    rw [hR] at h
    rcases h with ⟨_, v, rfl, ho⟩ | ⟨_, b, h0, _⟩
    · have hO := own_tks.2 ho
      obtain ⟨p, c, rfl, _⟩ := own_form' hO
      exact ⟨p, c, rfl, own_txs hO, TkIn.of_own hO, hb⟩
    · cases h0
  · have := spell_any p ts.length c (fun i => ts.getD i nT) (by omega) (scanT_tkR hR) W (g.keep hW) hT
    rw [hsp] at this
    exact this
  · have h9 := scanT_tkR hR i hi
    exact ⟨h9.x, hL, hC⟩
end Go.Proofs.YtmekcccmnkgodaaGreatDoor
namespace Go.Proofs.YtmekcccmnkgodaaGreatDoor
open Go.ChangeShapes Go.WideShapes Go.ChangeAt Go.RowKit
set_option linter.unusedVariables false
set_option linter.unusedSimpArgs false
set_option maxRecDepth 100000
def BrkP (w : World) (e : Ending) (w' : World) : Prop := e = .returned (.bool true) ∧ Below w.heap.size w w'
theorem resP_tree {w : World} {T : List Nd} {e : Ending} {w' : World} (h : ResP w (.tr T) e w') : ∃ b oo tc vs, e = .returned (.tuple #[.agg #[.slice (some ⟨b, oo, none⟩) T.length tc], .nilIface]) ∧ NAt w' (some ⟨b, oo, none⟩) T.length (nf T vs) ∧ Below w.heap.size w w' ∧ T.length ≤ 16385 ∧ 0 < T.length := by
  obtain ⟨hbl, tp, tc, vs, h1, h2, h4, h5, h6⟩ := h
  have hn := h2.nat h6
  have hne : ∃ b oo, tp = some ⟨b, oo, none⟩ := by
    rcases hn with h0 | ⟨b, oo, e, _⟩
    · omega
    · exact ⟨b, oo, e⟩
  obtain ⟨b, oo, rfl⟩ := hne
  exact ⟨b, oo, tc, vs, h1, hn, hbl, h4, h5⟩
theorem sameN_stp {T U : List Nd} {vs us : List Value} (h : T.map stp = U.map stp) (i : Nat) : sameN (nf T vs i) (nf U us i) = true := by
  have e : ∀ m : List Nd, stp (m.getD i nT1) = (m.map stp).getD i nT1 := fun m => by
    rw [List.getD_eq_getElem?_getD, List.getD_eq_getElem?_getD, List.getElem?_map]
    cases m[i]? <;> rfl
  have hk : stp (T.getD i nT1) = stp (U.getD i nT1) := by rw [e, e, h]
  have k1 : (T.getD i nT1).kind = (U.getD i nT1).kind := by show (stp (T.getD i nT1)).kind = (stp (U.getD i nT1)).kind; rw [hk]
  have k2 : (T.getD i nT1).name = (U.getD i nT1).name := by show (stp (T.getD i nT1)).name = (stp (U.getD i nT1)).name; rw [hk]
  have k3 : (T.getD i nT1).num = (U.getD i nT1).num := by show (stp (T.getD i nT1)).num = (stp (U.getD i nT1)).num; rw [hk]
  have k4 : (T.getD i nT1).op = (U.getD i nT1).op := by show (stp (T.getD i nT1)).op = (stp (U.getD i nT1)).op; rw [hk]
  have k5 : (T.getD i nT1).kids = (U.getD i nT1).kids := by show (stp (T.getD i nT1)).kids = (stp (U.getD i nT1)).kids; rw [hk]
  unfold sameN nf
  dsimp only
  rw [k1, k2, k3, k4, k5, sameF_yes (fun j _ => rfl)]
  simp
theorem alW {w W : World} (h : Below w.heap.size w W) (o : Obj) : Below w.heap.size w (W.alloc o) := h.alloc h.size o
theorem alW0 (W : World) (o : Obj) : Below W.heap.size W (W.alloc o) := (Below.refl _ W).alloc (Nat.le_refl _) o
theorem TkIn.below {W W' : World} {p : Option Addr} {n : Nat} {F : Nat → Value} (h : TkIn W p n F) (hb : Below W.heap.size W W') : TkIn W' p n F := by
  rcases h with h | ⟨b, o, e, hl, hc⟩
  · exact .inl h
  · exact .inr ⟨b, o, e, Nat.lt_of_lt_of_le hl hb.size, fun j hj => (cell_below (a := ⟨b, o + j, none⟩) hb hl).trans (hc j hj)⟩
set_option maxHeartbeats 4000000 in
theorem bl_scan (src : Bs) (hmx : src.length ≤ maxLen) (ts : List Tk) (er : Er) (hR : scanT src = (ts, some er)) (L C : Int) (w : World) (g : Gr w) (he : Et w) : Calls Tryz.prog 6 #[.string ⟨src.toArray⟩, .int .i64 L, .int .i64 C] w (BrkP w) := by
  have H0 := mhid (l_parse w g he)
  have HS : Hid (∀ W, Below w.heap.size w W → Calls Tryz.prog 9 #[.string ⟨src.toArray⟩] W fun e w' => ∃ b, e = .returned (.tuple #[.slice none 0 0, .iface 56 (.pointer (some ⟨b, 0, none⟩))]) ∧ EvAt w' (.iface 56 (.pointer (some ⟨b, 0, none⟩))) (.er er.code er.line er.col) ∧ Below W.heap.size W w') := fun W hW => (scan_any src hmx W (g.keep hW)).mono fun e w' ⟨hb, h⟩ => by
    rw [hR] at h
    rcases h with ⟨h0, _⟩ | ⟨er', b, h1, h2, h3⟩
    · cases h0
    · injection h1 with h1
      subst h1
      exact ⟨b, h2, ⟨b, rfl, h3⟩, hb⟩
  have HP : Hid (∀ W, Below w.heap.size w W → Calls Tryz.prog 7 #[.string ⟨src.toArray⟩] W fun e w' => ∃ tp tm tc ev, e = .returned (.tuple #[.agg #[.slice tp tm tc], ev]) ∧ EvAt w' ev (.er er.code er.line er.col) ∧ Below W.heap.size W w') := fun W hW => by
    have h := parse_any src hmx 0 (fun ts' h => by rw [hR] at h; injection h with _ h; cases h) W (g.keep hW) (he.keep hW)
    unfold prsR at h
    rw [hR] at h
    exact h.mono fun e w' h => h.ev
  have nss := neq_seen_same
  have ess := eql_seen_same
  have HK : Hid (∀ W ev, EvAt W ev (.er er.code er.line er.col) → Calls Tryz.prog 8 #[ev] W fun e w' => e = .returned (.agg #[.int .i64 2, .int .i64 er.code, .int .i64 er.line, .int .i64 er.col, .int .u64 0, .int .i64 0, .int .u64 0]) ∧ Below W.heap.size W w') := fun W ev h => see_any W h
  clear hR g he hmx
  go_enter Tryz.func6, Tryz.ntmps6
  go_wp2_with (first
    | (go_at_call 7; (with_reducible refine (H0.out).mono ?_); rintro e9 w1 ⟨tp, tc, rfl, hb⟩; have B1 := mhid (alW hb (.cells #[.slice tp 2 tc] 24)); clear hb H0)
    | (go_at_call 9; (with_reducible refine (HS.out _ B1.out).mono ?_); rintro e9 w2 ⟨b, rfl, hev, hb⟩; have B2 := mhid (And.intro hev (B1.out.trans (hb.mono B1.out.size))); clear hb hev B1)
    | (go_at_call 7; (with_reducible refine (HP.out _ B2.out.2).mono ?_); rintro e9 w3 ⟨tp3, tm3, tc3, ev3, rfl, hev, hb⟩; have B3 := mhid (And.intro ((B2.out.1.below hb).below (alW0 w3 (.cells #[.slice tp3 tm3 tc3] 24))) (And.intro (hev.below (alW0 w3 (.cells #[.slice tp3 tm3 tc3] 24))) (alW (B2.out.2.trans (hb.mono B2.out.2.size)) (.cells #[.slice tp3 tm3 tc3] 24)))); clear hb hev B2)
    | (go_at_call 8; (with_reducible refine (HK.out _ _ B3.out.2.1).mono ?_); rintro e9 w4 ⟨rfl, hb⟩; have B4 := mhid (And.intro (B3.out.1.below hb) (B3.out.2.2.trans (hb.mono B3.out.2.2.size))); clear hb B3)
    | (go_at_call 8; (with_reducible refine (HK.out _ _ B4.out.1).mono ?_); rintro e9 w5 ⟨rfl, hb⟩; have B5 := mhid (B4.out.2.trans (hb.mono B4.out.2.size)); clear hb B4))
  go_ret
  exact ⟨rfl, B5.out⟩
end Go.Proofs.YtmekcccmnkgodaaGreatDoor
namespace Go.Proofs.YtmekcccmnkgodaaGreatDoor
open Go.ChangeShapes Go.WideShapes Go.ChangeAt Go.RowKit
set_option linter.unusedVariables false
set_option linter.unusedSimpArgs false
set_option maxRecDepth 100000
set_option maxHeartbeats 4000000 in
theorem bl_er {src s : Bs} {ts : List Tk} {n : Nat} {L C : Int} {w : World} (K0 : BCtx src s ts n L C w) {c9 l o l' o' : Int} (h1 : bldR (fun i => ts.getD i nT) n 400000 = .er c9 l o) (h2 : bldR (mvT L C fun i => ts.getD i nT) n 400000 = .er c9 l' o') : Calls Tryz.prog 6 #[.string ⟨src.toArray⟩, .int .i64 L, .int .i64 C] w (BrkP w) := by
  have H0 := mhid K0.p0
  have HN : Hid (ts.length = n) := K0.hn
  have HP : ∀ x : Bs, (∀ W, Below w.heap.size w W → Calls Tryz.prog 7 #[.string ⟨x.toArray⟩] W (ResP W (bldR (fun i => ts.getD i nT) n 400000))) → Hid (∀ W, Below w.heap.size w W → Calls Tryz.prog 7 #[.string ⟨x.toArray⟩] W fun e w' => ∃ b, e = .returned (.tuple #[.agg #[.slice none 0 0], .iface 56 (.pointer (some ⟨b, 0, none⟩))]) ∧ EvAt w' (.iface 56 (.pointer (some ⟨b, 0, none⟩))) (.er c9 l o) ∧ Below W.heap.size W w') := fun x hx W hW => (hx W hW).mono fun e w' h => by
    rw [h1] at h
    obtain ⟨hb, b, h3, h4⟩ := h
    exact ⟨b, h3, ⟨b, rfl, h4⟩, hb⟩
  have HP1 := HP src K0.p1
  have HP2 := HP s K0.p2
  have HBU : Hid (∀ W p c, Below w.heap.size w W → TX W p n (mvT L C fun i => ts.getD i nT) → Calls Tryz.prog 10 #[.slice p n c] W fun e w' => ∃ b, e = .returned (.tuple #[.agg #[.slice none 0 0], .iface 56 (.pointer (some ⟨b, 0, none⟩))]) ∧ EvAt w' (.iface 56 (.pointer (some ⟨b, 0, none⟩))) (.er c9 l' o') ∧ Below W.heap.size W w') := fun W p c hW hT => (K0.bu W p c hW hT).mono fun e w' h => by
    rw [h2] at h
    obtain ⟨hb, b, h3, h4⟩ := h
    exact ⟨b, h3, ⟨b, rfl, h4⟩, hb⟩
  have nss := neq_seen_same
  have ess := eql_seen_same
  have hf : ∀ W (l o : Int), (Instr.field 33 (.agg #[.int .i64 2, .int .i64 c9, .int .i64 l, .int .i64 o, .int .u64 0, .int .i64 0, .int .u64 0]) 1).run Tryz.prog W = .ok (.int .i64 c9) W := fun W l o => by kernel_rfl
  have HK : Hid (∀ W ev l o, EvAt W ev (.er c9 l o) → Calls Tryz.prog 8 #[ev] W fun e w' => e = .returned (.agg #[.int .i64 2, .int .i64 c9, .int .i64 l, .int .i64 o, .int .u64 0, .int .i64 0, .int .u64 0]) ∧ Below W.heap.size W w') := fun W ev l o h => see_any W h
  have HST : Hid (∀ W, Calls Tryz.prog 15 #[.agg #[.slice none 0 0], .agg #[.slice none 0 0]] W fun e w' => e = .returned (.bool true) ∧ Below W.heap.size W w') := fun W => sameTree_any none none 0 0 0 0 (fun _ => ⟨0, ⟨#[]⟩, 0, 0, none, 0, 0, fun _ => 0, 0, 0⟩) (fun _ => ⟨0, ⟨#[]⟩, 0, 0, none, 0, 0, fun _ => 0, 0, 0⟩) (Nat.zero_le _) W (.inl rfl) (.inl rfl)
  have K := mhid K0
  have hcc : (c9 == c9) = true := by simp
  clear K0 h1 h2 HP
  go_enter Tryz.func6, Tryz.ntmps6
  go_upto_region 14 with (first
    | (go_at_call 7; (with_reducible refine (H0.out).mono ?_); rintro e9 w1 ⟨tp, tc, rfl, hb⟩; have B1 := mhid (alW hb (.cells #[.slice tp 2 tc] 24)); clear hb H0)
    | (go_at_call 9; (with_reducible refine (K.out.sc _ B1.out).mono ?_); rintro e9 w2 ⟨p, c, rfl, hT, hI, hb⟩; have B2 := mhid (And.intro hT (And.intro hI (B1.out.trans (hb.mono B1.out.size)))); clear hb hT hI B1)
    | (go_at_call 7; (with_reducible refine (HP1.out _ B2.out.2.2).mono ?_); rintro e9 w3 ⟨b3, rfl, hev, hb⟩; have B3 := mhid (And.intro (B2.out.1.below (hb.alloc hb.size (.cells #[.slice none 0 0] 24))) (And.intro (B2.out.2.1.below (hb.alloc hb.size (.cells #[.slice none 0 0] 24))) (And.intro (hev.below (alW0 w3 (.cells #[.slice none 0 0] 24))) (And.intro (alW (B2.out.2.2.trans (hb.mono B2.out.2.2.size)) (.cells #[.slice none 0 0] 24)) (World.alloc_heap_new w3 (.cells #[.slice none 0 0] 24)))))); clear hb hev B2 HP1)
    | (go_at_call 14; (with_reducible refine (K.out.sp _ _ _ B3.out.2.2.2.1 B3.out.1).mono ?_); rintro e9 w4 ⟨rfl, hb⟩; have B4 := mhid (And.intro (B3.out.2.1.below hb) (And.intro (B3.out.2.2.1.below hb) (And.intro (B3.out.2.2.2.1.trans (hb.mono B3.out.2.2.2.1.size)) ((hb.block _ (lt_of_block B3.out.2.2.2.2)).trans B3.out.2.2.2.2)))); clear hb B3)
    | (go_at_call 7; (with_reducible refine (HP2.out _ B4.out.2.2.1).mono ?_); rintro e9 w5 ⟨b5, rfl, hev, hb⟩; have hb2 := hb.alloc hb.size (.cells #[.slice none 0 0] 24); have B5 := mhid (And.intro (B4.out.1.below hb2) (And.intro (B4.out.2.1.below hb2) (And.intro (hev.below (alW0 w5 (.cells #[.slice none 0 0] 24))) (And.intro (B4.out.2.2.1.trans (hb2.mono B4.out.2.2.1.size)) (And.intro ((hb2.block _ (lt_of_block B4.out.2.2.2)).trans B4.out.2.2.2) (World.alloc_heap_new w5 (.cells #[.slice none 0 0] 24))))))); clear hb hb2 hev B4 HP2)
    | (go_at_call 8; (with_reducible refine (HK.out _ _ _ _ B5.out.2.2.1).mono ?_); rintro e9 w6 ⟨rfl, hb⟩; have B6 := mhid (And.intro (B5.out.1.below hb) (And.intro (B5.out.2.1.below hb) (And.intro (B5.out.2.2.2.1.trans (hb.mono B5.out.2.2.2.1.size)) (And.intro ((hb.block _ (lt_of_block B5.out.2.2.2.2.1)).trans B5.out.2.2.2.2.1) ((hb.block _ (lt_of_block B5.out.2.2.2.2.2)).trans B5.out.2.2.2.2.2))))); clear hb B5)
    | (go_at_call 8; (with_reducible refine (HK.out _ _ _ _ B6.out.2.1).mono ?_); rintro e9 w7 ⟨rfl, hb⟩; have B7 := mhid (And.intro (B6.out.1.below hb) (And.intro (B6.out.2.1.below hb) (B6.out.2.2.1.trans (hb.mono B6.out.2.2.1.size)))); have cA := cell_box1 ((hb.block _ (lt_of_block B6.out.2.2.2.1)).trans B6.out.2.2.2.1); have cB := cell_box1 ((hb.block _ (lt_of_block B6.out.2.2.2.2)).trans B6.out.2.2.2.2); clear hb B6)
    | (go_at_call 15; (with_reducible refine (HST.out _).mono ?_); rintro e9 w8 ⟨rfl, hb⟩; have B8 := mhid (And.intro (B7.out.1.below hb) (And.intro (B7.out.2.1.below hb) (B7.out.2.2.trans (hb.mono B7.out.2.2.size)))); clear hb B7 cA cB)
    | (go_at_call 16; (with_reducible refine (K.out.ct _ _ _ B8.out.1).mono ?_); rintro e9 w9 ⟨g, rfl, hO, hb⟩; have HC := mhid (And.intro hO (And.intro hb (And.intro (hO.lt g rfl).1 K.out.n1))); clear hO hb))
  go_wp2_with fail
  obtain ⟨wA, hwA⟩ : ∃ wA, wA = w8 := ⟨_, rfl⟩
  subst hwA
  go_loopw [85] (fun x wr => ∃ k : Nat, x = .int .i64 (k : Int) ∧ k ≤ n ∧ Own wr wA.heap.size 40 5 (.slice (some ⟨g, 0, none⟩) n n) n (mvF L C (TF ts) k) ∧ Below wA.heap.size wA wr) (fun x _ => n - (intOf x).toNat)
  case atStart => exact ⟨0, rfl, Nat.zero_le _, HC.out.1.congr fun j _ => mv_zero L C (TF ts) j, HC.out.2.1⟩
  case round =>
    obtain ⟨k, rfl, hk, hO, hbr⟩ := hrel
    by_cases hlt : k < n
    · have d1 : decide ((k : Int) < (n : Int)) = true := by simp; omega
      have d2 : decide (k < n) = true := by simp; omega
      have i0 : (0 : Int) ≤ (k : Int) := by omega
      have i1 : (k : Int) < (n : Int) := by omega
      have ek : IntKind.i64.wrap ((k : Int) + 1) = ((k + 1 : Nat) : Int) := by rw [IntKind.wrap_i64]; have := HC.out.2.2; omega
      have hm := meas0 hlt
      have x3 : wr.cell? ⟨g, k * 5 + 3, none⟩ = some (mvF L C (TF ts) k (k * 5 + 3)) := hO.cell (by omega)
      have x4 : wr.cell? ⟨g, k * 5 + 4, none⟩ = some (mvF L C (TF ts) k (k * 5 + 4)) := hO.cell (by omega)
      obtain ⟨cur, hcur, _⟩ := Own.block hO
      have f3 := frz hcur (k * 5 + 3)
      have f4 := frz hcur (k * 5 + 4)
      have y4 : (wr.setCell ⟨g, k * 5 + 3, none⟩ (.int .i64 L)).cell? ⟨g, k * 5 + 4, none⟩ = some (mvF L C (TF ts) k (k * 5 + 4)) := (hO.put (k * 5 + 3) [.int .i64 L]).cell (j := k * 5 + 4) (by omega) |>.trans (by unfold putF; rw [if_neg (by simp)])
      have y5 : (wr.setCell ⟨g, k * 5 + 3, none⟩ (.int .i64 L)).frozen? ⟨g, k * 5 + 4, none⟩ = false := by
        obtain ⟨cur2, hcur2, _⟩ := Own.block (hO.put (k * 5 + 3) [.int .i64 L])
        exact frz hcur2 (k * 5 + 4)
      have HO := mhid (And.intro (mv_put (L := L) (C := C) hO) (((hbr.setCell (p := ⟨g, k * 5 + 3, none⟩) (by have := HC.out.2.2.1; show wA.heap.size ≤ g; omega) (.int .i64 L)).setCell (p := ⟨g, k * 5 + 4, none⟩) (by have := HC.out.2.2.1; show wA.heap.size ≤ g; omega) (.int .i64 C))))
      clear hO hbr hcur hk
      go_wp2_with fail
      exact ⟨⟨k + 1, rfl, hlt, HO.out.1, HO.out.2⟩, hm⟩
    · have d1 : decide ((k : Int) < (n : Int)) = false := by simp; omega
      have d2 : decide (k < n) = false := by simp; omega
      obtain rfl : n = k := by omega
      obtain ⟨wL, rfl⟩ : ∃ wL, wL = wr := ⟨_, rfl⟩
      have BL := mhid (And.intro (mv_tx HN.out hO) hbr)
      clear hO hbr hk hlt
      have BW := mhid (And.intro (B8.out.2.1.below BL.out.2) (B8.out.2.2.trans (BL.out.2.mono B8.out.2.2.size)))
      clear B8 HC
      go_wp2_with (first
        | (go_at_call 10; (with_reducible refine (HBU.out _ _ _ BW.out.2 BL.out.1).mono ?_); rintro e9 w11 ⟨b11, rfl, hev, hb⟩; have hb2 := hb.alloc hb.size (.cells #[.slice none 0 0] 24); have B11 := mhid (And.intro (BW.out.1.below hb2) (And.intro (hev.below (alW0 w11 (.cells #[.slice none 0 0] 24))) (And.intro (BW.out.2.trans (hb2.mono BW.out.2.size)) (World.alloc_heap_new w11 (.cells #[.slice none 0 0] 24))))); clear hb hb2 hev BW BL HBU)
        | (go_at_call 8; (with_reducible refine (HK.out _ _ _ _ B11.out.2.1).mono ?_); rintro e9 w12 ⟨rfl, hb⟩; have B12 := mhid (And.intro (B11.out.1.below hb) (And.intro (B11.out.2.2.1.trans (hb.mono B11.out.2.2.1.size)) ((hb.block _ (lt_of_block B11.out.2.2.2)).trans B11.out.2.2.2))); clear hb B11)
        | (go_at_call 8; (with_reducible refine (HK.out _ _ _ _ B12.out.1).mono ?_); rintro e9 w13 ⟨rfl, hb⟩; have B13 := mhid (B12.out.2.1.trans (hb.mono B12.out.2.1.size)); have cC := cell_box1 ((hb.block _ (lt_of_block B12.out.2.2)).trans B12.out.2.2); clear hb B12))
      go_ret
      exact ⟨rfl, B13.out⟩
end Go.Proofs.YtmekcccmnkgodaaGreatDoor
namespace Go.Proofs.YtmekcccmnkgodaaGreatDoor
open Go.ChangeShapes Go.WideShapes Go.ChangeAt Go.RowKit
set_option linter.unusedVariables false
set_option linter.unusedSimpArgs false
set_option maxRecDepth 100000
theorem sameL_self (T : List Nd) (vs us : List Value) (i : Nat) : sameL (nf T vs i) (nf T us i) = true := by
  unfold sameL nf
  dsimp only
  rw [sameF_yes (fun j _ => rfl)]
  simp
set_option maxHeartbeats 4000000 in
theorem bl_tr {src s : Bs} {ts : List Tk} {n : Nat} {L C : Int} {w : World} (K0 : BCtx src s ts n L C w) {T U : List Nd} (h1 : bldR (fun i => ts.getD i nT) n 400000 = .tr T) (h2 : bldR (mvT L C fun i => ts.getD i nT) n 400000 = .tr U) (hS : T.map stp = U.map stp) (hU : ∃ d t, U = d :: t ∧ d.line = 1 ∧ d.col = 1 ∧ ∀ x ∈ t, x.line = L ∧ x.col = C) : Calls Tryz.prog 6 #[.string ⟨src.toArray⟩, .int .i64 L, .int .i64 C] w (BrkP w) := by
  have H0 := mhid K0.p0
  have HN : Hid (ts.length = n) := K0.hn
  have HP : ∀ x : Bs, (∀ W, Below w.heap.size w W → Calls Tryz.prog 7 #[.string ⟨x.toArray⟩] W (ResP W (bldR (fun i => ts.getD i nT) n 400000))) → Hid (∀ W, Below w.heap.size w W → Calls Tryz.prog 7 #[.string ⟨x.toArray⟩] W fun e w' => ∃ b oo tc vs, e = .returned (.tuple #[.agg #[.slice (some ⟨b, oo, none⟩) T.length tc], .nilIface]) ∧ NAt w' (some ⟨b, oo, none⟩) T.length (nf T vs) ∧ Below W.heap.size W w' ∧ T.length ≤ 16385 ∧ 0 < T.length) := fun x hx W hW => (hx W hW).mono fun e w' h => by
    rw [h1] at h
    exact resP_tree h
  have HP1 := HP src K0.p1
  have HP2 := HP s K0.p2
  have HBU : Hid (∀ W p c, Below w.heap.size w W → TX W p n (mvT L C fun i => ts.getD i nT) → Calls Tryz.prog 10 #[.slice p n c] W fun e w' => ∃ b oo tc vs, e = .returned (.tuple #[.agg #[.slice (some ⟨b, oo, none⟩) U.length tc], .nilIface]) ∧ NAt w' (some ⟨b, oo, none⟩) U.length (nf U vs) ∧ Below W.heap.size W w' ∧ U.length ≤ 16385 ∧ 0 < U.length) := fun W p c hW hT => (K0.bu W p c hW hT).mono fun e w' h => by
    rw [h2] at h
    exact resP_tree h
  have nsee : (fun e w' => e = Ending.returned (seeA 0 0 0 0)) = (fun (e : Ending) (w' : World) => e = .returned (.agg #[.int .i64 0, .int .i64 0, .int .i64 0, .int .i64 0, .int .u64 0, .int .i64 0, .int .u64 0])) := rfl
  have nss := neq_seen_same
  have HK : Hid (∀ W, Calls Tryz.prog 8 #[.nilIface] W fun e w' => e = .returned (.agg #[.int .i64 0, .int .i64 0, .int .i64 0, .int .i64 0, .int .u64 0, .int .i64 0, .int .u64 0]) ∧ Below W.heap.size W w') := fun W => see_nil W
  have HST : Hid (∀ W b oo c b' o' d vs us, T.length ≤ 16385 → NAt W (some ⟨b, oo, none⟩) T.length (nf T vs) → NAt W (some ⟨b', o', none⟩) T.length (nf T us) → Calls Tryz.prog 15 #[.agg #[.slice (some ⟨b, oo, none⟩) T.length c], .agg #[.slice (some ⟨b', o', none⟩) T.length d]] W fun e w' => e = .returned (.bool true) ∧ Below W.heap.size W w') := fun W b oo c b' o' d vs us hl g1 g2 => by
    have h := sameTree_any (some ⟨b, oo, none⟩) (some ⟨b', o', none⟩) T.length T.length c d (nf T vs) (nf T us) (by omega) W g1 g2
    rw [allF_yes (fun j _ => sameL_self T vs us j), decide_eq_true rfl] at h
    exact h
  have hTU : T.length = U.length := by have := congrArg List.length hS; simpa using this
  have HG : Hid (∀ W b oo c b' o' d vs us, T.length ≤ 16385 → NAt W (some ⟨b, oo, none⟩) T.length (nf T vs) → NAt W (some ⟨b', o', none⟩) U.length (nf U us) → Calls Tryz.prog 11 #[.agg #[.slice (some ⟨b, oo, none⟩) T.length c], .agg #[.slice (some ⟨b', o', none⟩) U.length d]] W fun e w' => e = .returned (.bool true) ∧ Below W.heap.size W w') := fun W b oo c b' o' d vs us hl g1 g2 => by
    have h := gsame_any (some ⟨b, oo, none⟩) (some ⟨b', o', none⟩) T.length U.length c d (nf T vs) (nf U us) (by omega) W g1 g2
    rw [allF_yes (fun j _ => sameN_stp hS j), decide_eq_true hTU] at h
    exact h
  have HU : Hid (∀ i, i < U.length → (i = 0 → (U.getD i nT1).line = 1 ∧ (U.getD i nT1).col = 1) ∧ (0 < i → (U.getD i nT1).line = L ∧ (U.getD i nT1).col = C)) := by
    obtain ⟨d, t, rfl, h3, h4, h5⟩ := hU
    intro i hi
    refine ⟨fun h0 => by subst h0; exact ⟨h3, h4⟩, fun h0 => ?_⟩
    obtain ⟨j, rfl⟩ : ∃ j, i = j + 1 := ⟨i - 1, by omega⟩
    have hj : j < t.length := by simpa using hi
    rw [show (d :: t).getD (j + 1) nT1 = t[j] from by rw [List.getD_eq_getElem?_getD, List.getElem?_cons_succ, List.getElem?_eq_getElem hj]; rfl]
    exact h5 _ (List.getElem_mem hj)
  have K := mhid K0
  clear K0 h1 h2 HP hS hTU hU nsee
  generalize hnt : T.length = nt at *
  generalize hnu : U.length = nu at *
  have HNT := mhid (And.intro hnt hnu)
  clear hnt hnu
  go_enter Tryz.func6, Tryz.ntmps6
  go_upto_region 14 with (first
    | (go_at_call 7; (with_reducible refine (H0.out).mono ?_); rintro e9 w1 ⟨tp, tc, rfl, hb⟩; have B1 := mhid (alW hb (.cells #[.slice tp 2 tc] 24)); clear hb H0)
    | (go_at_call 9; (with_reducible refine (K.out.sc _ B1.out).mono ?_); rintro e9 w2 ⟨p, c, rfl, hT, hI, hb⟩; have B2 := mhid (And.intro hT (And.intro hI (B1.out.trans (hb.mono B1.out.size)))); clear hb hT hI B1)
    | (go_at_call 7; (with_reducible refine (HP1.out _ B2.out.2.2).mono ?_); rintro e9 w3 ⟨b3, o3, t3, vs3, rfl, hN3, hb, hl3, h03⟩; have HL3 := mhid hl3; have B3 := mhid (And.intro (B2.out.1.below (hb.alloc hb.size (.cells #[.slice (some ⟨b3, o3, none⟩) nt t3] 24))) (And.intro (B2.out.2.1.below (hb.alloc hb.size (.cells #[.slice (some ⟨b3, o3, none⟩) nt t3] 24))) (And.intro (hN3.below (alW0 w3 (.cells #[.slice (some ⟨b3, o3, none⟩) nt t3] 24))) (And.intro (alW (B2.out.2.2.trans (hb.mono B2.out.2.2.size)) (.cells #[.slice (some ⟨b3, o3, none⟩) nt t3] 24)) (World.alloc_heap_new w3 (.cells #[.slice (some ⟨b3, o3, none⟩) nt t3] 24)))))); clear hb hN3 hl3 h03 B2 HP1)
    | (go_at_call 14; (with_reducible refine (K.out.sp _ _ _ B3.out.2.2.2.1 B3.out.1).mono ?_); rintro e9 w4 ⟨rfl, hb⟩; have B4 := mhid (And.intro (B3.out.2.1.below hb) (And.intro (B3.out.2.2.1.below hb) (And.intro (B3.out.2.2.2.1.trans (hb.mono B3.out.2.2.2.1.size)) ((hb.block _ (lt_of_block B3.out.2.2.2.2)).trans B3.out.2.2.2.2)))); clear hb B3)
    | (go_at_call 7; (with_reducible refine (HP2.out _ B4.out.2.2.1).mono ?_); rintro e9 w5 ⟨b5, o5, t5, vs5, rfl, hN5, hb, hl5, h05⟩; have hb2 := hb.alloc hb.size (.cells #[.slice (some ⟨b5, o5, none⟩) nt t5] 24); have B5 := mhid (And.intro (B4.out.1.below hb2) (And.intro (B4.out.2.1.below hb2) (And.intro (hN5.below (alW0 w5 (.cells #[.slice (some ⟨b5, o5, none⟩) nt t5] 24))) (And.intro (B4.out.2.2.1.trans (hb2.mono B4.out.2.2.1.size)) (And.intro ((hb2.block _ (lt_of_block B4.out.2.2.2)).trans B4.out.2.2.2) (World.alloc_heap_new w5 (.cells #[.slice (some ⟨b5, o5, none⟩) nt t5] 24))))))); clear hb hb2 hN5 hl5 h05 B4 HP2)
    | (go_at_call 8; (with_reducible refine (HK.out _).mono ?_); rintro e9 w6 ⟨rfl, hb⟩; have B6 := mhid (And.intro (B5.out.1.below hb) (And.intro (B5.out.2.1.below hb) (And.intro (B5.out.2.2.1.below hb) (And.intro (B5.out.2.2.2.1.trans (hb.mono B5.out.2.2.2.1.size)) (And.intro ((hb.block _ (lt_of_block B5.out.2.2.2.2.1)).trans B5.out.2.2.2.2.1) ((hb.block _ (lt_of_block B5.out.2.2.2.2.2)).trans B5.out.2.2.2.2.2)))))); clear hb B5)
    | (go_at_call 8; (with_reducible refine (HK.out _).mono ?_); rintro e9 w7 ⟨rfl, hb⟩; have B7 := mhid (And.intro (B6.out.1.below hb) (And.intro (B6.out.2.1.below hb) (And.intro (B6.out.2.2.1.below hb) (And.intro (B6.out.2.2.2.1.trans (hb.mono B6.out.2.2.2.1.size)) ((hb.block _ (lt_of_block B6.out.2.2.2.2.1)).trans B6.out.2.2.2.2.1))))); have cA := cell_box1 ((hb.block _ (lt_of_block B6.out.2.2.2.2.1)).trans B6.out.2.2.2.2.1); have cB := cell_box1 ((hb.block _ (lt_of_block B6.out.2.2.2.2.2)).trans B6.out.2.2.2.2.2); clear hb B6)
    | (go_at_call 15; (with_reducible refine (HST.out _ _ _ _ _ _ _ _ _ HL3.out B7.out.2.1 B7.out.2.2.1).mono ?_); rintro e9 w8 ⟨rfl, hb⟩; have B8 := mhid (And.intro (B7.out.1.below hb) (And.intro (B7.out.2.1.below hb) (And.intro (B7.out.2.2.2.1.trans (hb.mono B7.out.2.2.2.1.size)) ((hb.block _ (lt_of_block B7.out.2.2.2.2)).trans B7.out.2.2.2.2)))); clear hb B7 cA cB)
    | (go_at_call 16; (with_reducible refine (K.out.ct _ _ _ B8.out.1).mono ?_); rintro e9 w9 ⟨g, rfl, hO, hb⟩; have HC := mhid (And.intro hO (And.intro hb (And.intro (hO.lt g rfl).1 K.out.n1))); clear hO hb))
  go_wp2_with fail
  obtain ⟨wA, hwA⟩ : ∃ wA, wA = w8 := ⟨_, rfl⟩
  subst hwA
  go_loopw [85] (fun x wr => ∃ k : Nat, x = .int .i64 (k : Int) ∧ k ≤ n ∧ Own wr wA.heap.size 40 5 (.slice (some ⟨g, 0, none⟩) n n) n (mvF L C (TF ts) k) ∧ Below wA.heap.size wA wr) (fun x _ => n - (intOf x).toNat)
  case atStart => exact ⟨0, rfl, Nat.zero_le _, HC.out.1.congr fun j _ => mv_zero L C (TF ts) j, HC.out.2.1⟩
  case round =>
    obtain ⟨k, rfl, hk, hO, hbr⟩ := hrel
    by_cases hlt : k < n
    · have d1 : decide ((k : Int) < (n : Int)) = true := by simp; omega
      have d2 : decide (k < n) = true := by simp; omega
      have i0 : (0 : Int) ≤ (k : Int) := by omega
      have i1 : (k : Int) < (n : Int) := by omega
      have ek : IntKind.i64.wrap ((k : Int) + 1) = ((k + 1 : Nat) : Int) := by rw [IntKind.wrap_i64]; have := HC.out.2.2; omega
      have hm := meas0 hlt
      have x3 : wr.cell? ⟨g, k * 5 + 3, none⟩ = some (mvF L C (TF ts) k (k * 5 + 3)) := hO.cell (by omega)
      have x4 : wr.cell? ⟨g, k * 5 + 4, none⟩ = some (mvF L C (TF ts) k (k * 5 + 4)) := hO.cell (by omega)
      obtain ⟨cur, hcur, _⟩ := Own.block hO
      have f3 := frz hcur (k * 5 + 3)
      have f4 := frz hcur (k * 5 + 4)
      have y4 : (wr.setCell ⟨g, k * 5 + 3, none⟩ (.int .i64 L)).cell? ⟨g, k * 5 + 4, none⟩ = some (mvF L C (TF ts) k (k * 5 + 4)) := (hO.put (k * 5 + 3) [.int .i64 L]).cell (j := k * 5 + 4) (by omega) |>.trans (by unfold putF; rw [if_neg (by simp)])
      have y5 : (wr.setCell ⟨g, k * 5 + 3, none⟩ (.int .i64 L)).frozen? ⟨g, k * 5 + 4, none⟩ = false := by
        obtain ⟨cur2, hcur2, _⟩ := Own.block (hO.put (k * 5 + 3) [.int .i64 L])
        exact frz hcur2 (k * 5 + 4)
      have HO := mhid (And.intro (mv_put (L := L) (C := C) hO) (((hbr.setCell (p := ⟨g, k * 5 + 3, none⟩) (by have := HC.out.2.2.1; show wA.heap.size ≤ g; omega) (.int .i64 L)).setCell (p := ⟨g, k * 5 + 4, none⟩) (by have := HC.out.2.2.1; show wA.heap.size ≤ g; omega) (.int .i64 C))))
      clear hO hbr hcur hk
      go_wp2_with fail
      exact ⟨⟨k + 1, rfl, hlt, HO.out.1, HO.out.2⟩, hm⟩
    · have d1 : decide ((k : Int) < (n : Int)) = false := by simp; omega
      have d2 : decide (k < n) = false := by simp; omega
      obtain rfl : n = k := by omega
      obtain ⟨wL, rfl⟩ : ∃ wL, wL = wr := ⟨_, rfl⟩
      have BL := mhid (And.intro (mv_tx HN.out hO) hbr)
      clear hO hbr hk hlt
      have BW := mhid (And.intro (B8.out.2.1.below BL.out.2) (And.intro (B8.out.2.2.1.trans (BL.out.2.mono B8.out.2.2.1.size)) ((BL.out.2.block _ (lt_of_block B8.out.2.2.2)).trans B8.out.2.2.2)))
      clear B8 HC
      go_wp2_with (
      (go_at_call 10; (with_reducible refine (HBU.out _ _ _ BW.out.2.1 BL.out.1).mono ?_); rintro e9 w11 ⟨b11, o11, t11, vs11, rfl, hN11, hb, hl11, h011⟩; have hb2 := hb.alloc hb.size (.cells #[.slice (some ⟨b11, o11, none⟩) nu t11] 24); have cU := cell_box1 (World.alloc_heap_new w11 (.cells #[.slice (some ⟨b11, o11, none⟩) nu t11] 24)); have B11 := mhid (And.intro (BW.out.1.below hb2) (And.intro (hN11.below (alW0 w11 (.cells #[.slice (some ⟨b11, o11, none⟩) nu t11] 24))) (And.intro (BW.out.2.1.trans (hb2.mono BW.out.2.1.size)) (And.intro ((hb2.block _ (lt_of_block BW.out.2.2)).trans BW.out.2.2) (And.intro (World.alloc_heap_new w11 (.cells #[.slice (some ⟨b11, o11, none⟩) nu t11] 24)) (And.intro hl11 h011)))))); clear hb hb2 hN11 hl11 h011 BW BL HBU))
      generalize hwU : w11.alloc (.cells #[.slice (some ⟨b11, o11, none⟩) nu t11] 24) = wU at *
      generalize hbU : w11.heap.size = bU at *
      clear hwU hbU
      go_loopw [126] (fun x wr => ∃ k : Nat, x = .int .i64 (k : Int) ∧ k ≤ nu ∧ Below wU.heap.size wU wr) (fun x _ => nu - (intOf x).toNat)
      case atStart => exact ⟨0, rfl, Nat.zero_le _, Below.refl _ _⟩
      case round =>
        obtain ⟨k, rfl, hk, hbr⟩ := hrel
        have hN := B11.out.2.1.below hbr
        have hcU := cell_box1 ((hbr.block _ (lt_of_block B11.out.2.2.2.2.1)).trans B11.out.2.2.2.2.1)
        clear cU
        by_cases hlt : k < nu
        · have d1 : decide ((k : Int) < (nu : Int)) = true := by simp; omega
          have d2 : decide (k < nu) = true := by simp; omega
          have i0 : (0 : Int) ≤ (k : Int) := by omega
          have i1 : (k : Int) < (nu : Int) := by omega
          have ek : IntKind.i64.wrap ((k : Int) + 1) = ((k + 1 : Nat) : Int) := by rw [IntKind.wrap_i64]; have := B11.out.2.2.2.2.2.1; omega
          have hm := meas0 hlt
          have hz := HU.out k hlt
          rcases hN with hN | ⟨b', o', e', hl', hN⟩
          · omega
          injection e' with e'
          injection e' with e1' e2'
          subst e1' e2'
          obtain ⟨⟨x0, x1, x2, x3, x4, x5, x6⟩, _⟩ := hN k hlt
          generalize hnd : nf U vs11 k = nd at x0 x1 x2 x3 x4 x5 x6
          have hn5 : 0 < k → nd.line = L ∧ nd.col = C := fun h => by rw [← hnd]; exact hz.2 h
          clear hN hnd hz
          have HBR := mhid hbr
          clear hbr hk hl'
          by_cases hk0 : k = 0
          · subst hk0
            clear hn5
            simp only [Nat.zero_mul, Nat.add_zero] at x0 x1 x2 x3 x4 x5 x6
            go_wp2_with fail
            exact ⟨⟨1, rfl, hlt, alW HBR.out _⟩, hm⟩
          · obtain ⟨n5, n6⟩ := hn5 (by omega)
            rw [n5] at x5
            rw [n6] at x6
            clear hn5 n5 n6
            have q1 : decide ((k : Int) > 0) = true := decide_eq_true (by omega)
            have q2 : decide ((0 : Int) < (k : Int)) = true := decide_eq_true (by omega)
            have q3 : decide (0 < k) = true := decide_eq_true (by omega)
            have q4 : (L != L) = false := by simp
            have q5 : (C != C) = false := by simp
            clear hk0
            go_wp2_with fail
            exact ⟨⟨k + 1, rfl, hlt, alW HBR.out _⟩, hm⟩
        · have d1 : decide ((k : Int) < (nu : Int)) = false := by simp; omega
          have d2 : decide (k < nu) = false := by simp; omega
          obtain ⟨wV, rfl⟩ : ∃ wV, wV = wr := ⟨_, rfl⟩
          have cT := cell_box1 ((hbr.block _ (lt_of_block B11.out.2.2.2.1)).trans B11.out.2.2.2.1)
          have BV := mhid (And.intro (B11.out.1.below hbr) (And.intro hN (And.intro (B11.out.2.2.1.trans (hbr.mono B11.out.2.2.1.size)) (And.intro (hbr.trans (Below.refl _ _)) ((hbr.block _ (lt_of_block B11.out.2.2.2.2.1)).trans B11.out.2.2.2.2.1)))))
          have g1 : decide ((nu : Int) > 0) = true := decide_eq_true (by have := B11.out.2.2.2.2.2.2; omega)
          have g2 : decide ((0 : Int) < (nu : Int)) = true := decide_eq_true (by have := B11.out.2.2.2.2.2.2; omega)
          have g3 : decide (0 < nu) = true := decide_eq_true B11.out.2.2.2.2.2.2
          have g4 : (0 : Int) < (nu : Int) := by have := B11.out.2.2.2.2.2.2; omega
          have hu0 := (HU.out 0 B11.out.2.2.2.2.2.2).1 rfl
          clear hN hbr hk hlt
          go_wp2_with (go_at_call 11; (with_reducible refine (HG.out _ _ _ _ _ _ _ _ _ HL3.out BV.out.1 BV.out.2.1).mono ?_); rintro e9 w14 ⟨rfl, hb⟩; have BE := mhid (BV.out.2.2.1.trans (hb.mono BV.out.2.2.1.size)); have cU2 := cell_box1 ((hb.block _ (lt_of_block BV.out.2.2.2.2)).trans BV.out.2.2.2.2); have hN14 := BV.out.2.1.below hb; have hx : w14.cell? ⟨b11, o11 + 5, none⟩ = some (.int .i64 1) ∧ w14.cell? ⟨b11, o11 + 6, none⟩ = some (.int .i64 1) := (by rcases hN14 with hN | ⟨b', o', e', hl', hN⟩; (exact absurd hN (by omega)); injection e' with e'; injection e' with e1' e2'; subst e1' e2'; obtain ⟨⟨x0, x1, x2, x3, x4, x5, x6⟩, _⟩ := hN 0 (by omega); have y5 : (nf U vs11 0).line = 1 := hu0.1; have y6 : (nf U vs11 0).col = 1 := hu0.2; rw [y5] at x5; rw [y6] at x6; simp only [Nat.zero_mul, Nat.add_zero] at x5 x6; exact ⟨x5, x6⟩); obtain ⟨hx5, hx6⟩ := hx; clear hb hN14)
          go_ret
          exact ⟨rfl, BE.out⟩
end Go.Proofs.YtmekcccmnkgodaaGreatDoor
namespace Go.Proofs.YtmekcccmnkgodaaGreatDoor
open Go.ChangeShapes Go.WideShapes Go.ChangeAt Go.RowKit
set_option linter.unusedVariables false
set_option maxRecDepth 100000
/-! ### the ground of a card whose list holds a type's handle -/
theorem gr_star : "*" ++ "errors.errorString" = "*errors.errorString" := by decide
theorem gr_row (u : TypeId) (h : Tryz.prog.typeName? 3 u = some "*errors.errorString") : u = 167 :=
  typeName_ptr_named (nm := "errors.errorString") (by rw [gr_star]; kernel_rfl) (by kernel_rfl) (by decide) u (by rw [gr_star]; exact h)
theorem gt_et : Tryz.prog.globalNamed "errors.errorType" = some 2 := by kernel_rfl
theorem gt_rt : (Tryz.prog.cutTypes.find? (·.1 == "internal/reflectlite.rtype")).map (·.2) = some 132 := by kernel_rfl
theorem gt_oneRow : ((List.range 209).filter fun t => Tryz.prog.rowNamed t [101, 114, 114, 111, 114]) = [26] := by kernel_rfl
theorem gt_size : Tryz.prog.types.size = 209 := by kernel_rfl
theorem et_of {W : World} (h : handlesMet Tryz.prog [("errors.errorType", Rows.laid_errors_errorType)] W) : Et W := by
  obtain ⟨name, u, ty, e1, e2, e3, e4, e5⟩ := h _ (List.mem_singleton.2 rfl)
  have en : name = [101, 114, 114, 111, 114] := (Option.some.inj e1).symm
  subst en
  obtain rfl := Option.some.inj (gt_rt.symm.trans e2)
  have hm : ty ∈ (List.range 209).filter fun t => Tryz.prog.rowNamed t [101, 114, 114, 111, 114] := List.mem_filter.2 ⟨List.mem_range.2 (by rw [← gt_size]; exact e3), e4⟩
  rw [gt_oneRow] at hm
  obtain rfl := List.mem_singleton.1 hm
  have hh : typeHandle Tryz.prog 26 = .pointer (some ⟨9, 26, none⟩) := by kernel_rfl
  rw [hh] at e5
  have := World.var?_cell gt_et e5 0
  unfold Et
  simpa using this
theorem gr_of6 {W : World} {rest : List (String × DataW Unit)} (h1 : laidMet Tryz.prog (("math/bits.deBruijn32tab", Rows.laid_math_bits_deBruijn32tab) :: ("math/bits.deBruijn64tab", Rows.laid_math_bits_deBruijn64tab) :: ("internal/strconv.uint64pow10", Rows.laid_internal_strconv_uint64pow10) :: ("strconv.ErrRange", Rows.laid_strconv_ErrRange) :: ("strconv.ErrSyntax", Rows.laid_strconv_ErrSyntax) :: ("horizon/lexer.spelling", Rows.laid_horizon_lexer_spelling) :: rest) W) : Gr W := by
  have h3 := h1.tail.tail.tail
  have h4 := h3.tail
  have h5 := h4.tail
  refine ⟨sp_of_head h5, ?_, ?_⟩
  · obtain ⟨a, s, hv, _⟩ := laid_sentinel h4 (by kernel_rfl : Tryz.prog.globalNamed "strconv.ErrSyntax" = some 4) (by kernel_rfl : (Tryz.prog.globals[4]?).map (·.type) = some 26) Tryz.underlying26 gr_row Tryz.underlying167 Tryz.underlying169 rfl rfl Tryz.underlying9 (by kernel_rfl) (by kernel_rfl)
    exact ⟨_, _, hv⟩
  · obtain ⟨a, s, hv, _⟩ := laid_sentinel h3 (by kernel_rfl : Tryz.prog.globalNamed "strconv.ErrRange" = some 5) (by kernel_rfl : (Tryz.prog.globals[5]?).map (·.type) = some 26) Tryz.underlying26 gr_row Tryz.underlying167 Tryz.underlying169 rfl rfl Tryz.underlying9 (by kernel_rfl) (by kernel_rfl)
    exact ⟨_, _, hv⟩
theorem ground7 {W : World} (h : laidMetH Tryz.prog Rows.grammarFitsRow.laid W) : Gr W ∧ Et W := by
  have h' : laidMet Tryz.prog [("math/bits.deBruijn32tab", Rows.laid_math_bits_deBruijn32tab), ("math/bits.deBruijn64tab", Rows.laid_math_bits_deBruijn64tab), ("internal/strconv.uint64pow10", Rows.laid_internal_strconv_uint64pow10), ("strconv.ErrRange", Rows.laid_strconv_ErrRange), ("strconv.ErrSyntax", Rows.laid_strconv_ErrSyntax), ("horizon/lexer.spelling", Rows.laid_horizon_lexer_spelling)] W ∧ handlesMet Tryz.prog [("errors.errorType", Rows.laid_errors_errorType)] W := h
  exact ⟨gr_of6 h'.1, et_of h'.2⟩
/-- a world that has it all -/
noncomputable def lw0 (os : Os) : World :=
  let w0 := World.holding Tryz.prog os ⟨#[], #[], []⟩
  { w0 with heap := w0.heap.modify 2 fun
      | .cells _ t frozen => .cells #[.iface 132 (.agg #[.pointer (some ⟨9, 26, none⟩)])] t frozen
      | o => o }
noncomputable def lwH (os : Os) (L : List (String × DataW Unit)) : World := (lw0 os).layVars Tryz.prog L
theorem lwH_os (os : Os) (L : List (String × DataW Unit)) : (lwH os L).os = os := World.layVars_os _ _ _
theorem lwH_met {os : Os} {L : List (String × DataW Unit)} (args : Array Value) (hf : (lw0 os).layFits Tryz.prog L [] = true) (hi : (lw0 os).layIfaces Tryz.prog L (lwH os L) = true) : laidMet Tryz.prog L ((lwH os L).forCall (fun _ _ => 0) ⟨#[], args, []⟩).memory := by
  have e1 : (L.filter fun x => (L.map (·.1)).contains x.1) = L := List.filter_eq_self.2 fun x hx => List.contains_iff_mem.2 (List.mem_map.2 ⟨x, hx, rfl⟩)
  have e2 : (L.filter fun x => !(L.map (·.1)).contains x.1) = [] := List.filter_eq_nil_iff.2 fun x hx => by rw [List.contains_iff_mem.2 (List.mem_map.2 ⟨x, hx, rfl⟩)]; simp
  have h : laidMet Tryz.prog L (lwH os L) := laidMet_layVars (w0 := lw0 os) (L.map (·.1)) [] (by rw [e1]; rfl) (by rw [e1]; exact hf) (by rw [e1]; exact hi) (by rw [e2]; exact LaidIn.none)
  exact h.of_heap (by simp [World.memory, World.forCall, Input.heap])
end Go.Proofs.YtmekcccmnkgodaaGreatDoor
namespace Go.Proofs.YtmekcccmnkgodaaGreatDoor
open Go.ChangeShapes Go.WideShapes Go.ChangeAt Go.RowKit
theorem blk_law (src : Bs) (L C : Int) (hL : -9223372036854775808 ≤ L ∧ L ≤ 9223372036854775807) (hC : -9223372036854775808 ≤ C ∧ C ≤ 9223372036854775807) (hmx : src.length ≤ maxLen) (w : World) (g : Gr w ∧ Et w) : Calls Tryz.prog 6 #[.string ⟨src.toArray⟩, .int .i64 L, .int .i64 C] w fun e w' => e = .returned (.bool true) ∧ Below w.heap.size w w' := by
  obtain ⟨ts, er, hR⟩ : ∃ ts er, scanT src = (ts, er) := ⟨_, _, rfl⟩
  cases er with
  | some er => exact bl_scan src hmx ts er hR L C w g.1 g.2
  | none =>
    obtain ⟨s, K⟩ := bctx src ts hR L C hL hC w g.1 g.2
    rcases bl_cases (fun i => ts.getD i nT) L C ts.length K.n1 with ⟨c, l, o, l', o', h1, h2⟩ | ⟨T, U, h1, h2, h3, h4⟩
    · exact bl_er K h1 h2
    · exact bl_tr K h1 h2 h3 h4
end Go.Proofs.YtmekcccmnkgodaaGreatDoor
