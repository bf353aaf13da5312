/- CONF: THE WALK OVER add. -/
import Derived.Test.YtegobomfhdfodaaGreatDoorCw
namespace Go.Proofs.YtegobomfhdfodaaGreatDoor
open Go.RowKit
set_option maxRecDepth 100000
set_option linter.unusedVariables false
set_option linter.unusedSimpArgs false

/-- what a line's data are bounded by -/
structure LineFit (ln : K.Line) : Prop where
  ind : ln.indent ≤ 1000000
  key : ln.key.length ≤ 1000000
  kind : ln.node.kind ≤ 2
  text : ln.node.text.length ≤ 1000000
  list : ln.node.list.length ≤ 1000000
  each : ∀ s ∈ ln.node.list, s.length ≤ 1000000
abbrev lcells (ln : K.Line) (v : Value) : Array Value := #[.int .i64 (ln.indent : Int), S ln.key, .int .u8 (ln.node.kind : Int), S ln.node.text, v, .slice none 0 0]
/-- the innermost map, its row, its level -/
theorem MR.split {base far g : Nat} {a : K.L} {r : List K.L} {w : World} (h : MR base far g (a :: r) w) :
    ∃ v lo x vb cap, MS base far g v (lo ++ [x]) w ∧ v = .slice (some ⟨vb, 0, none⟩) (r.length + 1) cap ∧ lo.length = r.length ∧ lo.reverse.map LV.abs = r ∧ LV.abs x = a := by
  obtain ⟨v, lv, h, e⟩ := h
  cases hl : lv.reverse with
  | nil => rw [hl] at e; cases e
  | cons x t =>
    rw [hl] at e
    injection e with e1 e2
    have hlv : lv = t.reverse ++ [x] := by rw [← List.reverse_reverse lv, hl]; simp
    have htl : t.length = r.length := by rw [← e2]; simp
    subst hlv
    obtain ⟨vb, cap, rfl, _⟩ := h.at (i := r.length) (a := x) (by rw [List.getElem?_append_right (by simp; omega)]; simp [htl])
    exact ⟨_, t.reverse, x, vb, cap, h, by simp [htl], by simp [htl], by simpa using e2, e1⟩
/-- what the last region of add stands on -/
theorem add_facts {X w6 : World} {base far g vb n m hbx capv : Nat} {lo : List LV} {x : LV} {q' : Value} {ln : K.Line} {v : Value} (h : MS base far g (.slice (some ⟨vb, 0, none⟩) (n + 1) capv) (lo ++ [x]) X) (hn : lo.length = n) (hm : x.es.length = m) (hbox : X.heap[hbx]? = some (.cells (lcells ln v) 71 (0, 0)))
    (hrow : w6.ownsRow far 44 5 q' (m + 1) (x.es.flatMap kc ++ zero5.toList)) (hg : (X.alloc (.cells zero5 44)).grownBy w6 x.q.ownBlock) (hob : q'.ownBlock = x.q.ownBlock ∨ q'.ownBlock = some (X.heap.size + 1)) :
    ∃ bq cap, q' = .slice (some ⟨bq, 0, none⟩) (m + 1) cap ∧ bq ≠ vb ∧ vb ≠ bq ∧ bq < w6.heap.size ∧ vb < w6.heap.size ∧
      (w6.cell? ⟨bq, m * 5, none⟩ = some (.string ⟨#[]⟩) ∧ w6.cell? ⟨bq, m * 5 + 1, none⟩ = some (.int .u8 0) ∧ w6.cell? ⟨bq, m * 5 + 2, none⟩ = some (.string ⟨#[]⟩) ∧ w6.cell? ⟨bq, m * 5 + 3, none⟩ = some (.slice none 0 0) ∧ w6.cell? ⟨bq, m * 5 + 4, none⟩ = some (.slice none 0 0)) ∧ (∀ j, w6.frozen? ⟨bq, j, none⟩ = false) ∧
      w6.cell? ⟨vb, n * 2 + 1, none⟩ = some x.q ∧ (∀ j, w6.frozen? ⟨vb, j, none⟩ = false) ∧ w6.ownsRow base 63 2 (.slice (some ⟨vb, 0, none⟩) (n + 1) capv) (n + 1) ((lo ++ [x]).flatMap lc) := by
  have hkx := h.keys x (by simp)
  have hl : (lo ++ [x]).length = n + 1 := by simp; omega
  have hlev := h.row
  rw [hl] at hlev
  have hlev1 : (X.alloc (.cells zero5 44)).ownsRow base 63 2 (.slice (some ⟨vb, 0, none⟩) (n + 1) capv) (n + 1) ((lo ++ [x]).flatMap lc) := World.ownsRow.alloc hlev _
  have hx1 : (X.alloc (.cells zero5 44)).ownsRow far 44 5 x.q x.es.length (x.es.flatMap kc) := World.ownsRow.alloc hkx.row _
  have hlev6 : w6.ownsRow base 63 2 (.slice (some ⟨vb, 0, none⟩) (n + 1) capv) (n + 1) ((lo ++ [x]).flatMap lc) := World.ownsRow.kept hlev1 hg (.inr (fun e => rows_apart hx1 hlev1 (by decide) vb rfl e.symm))
  have hflen : (x.es.flatMap kc).length = m * 5 := by rw [fm_len kc_len, hm]
  rcases hrow.2 with ⟨rfl, h0⟩ | ⟨bq, cap, cur, rfl, hbb, hbk, hnc, hcm, hcs, htk⟩
  · omega
  · have hne : bq ≠ vb := fun e => rows_apart hlev6 hrow (by decide) bq rfl (by rw [e]; rfl)
    have hcell : ∀ j u, j < 5 → zero5.toList[j]? = some u → w6.cell? ⟨bq, m * 5 + j, none⟩ = some u := fun j u hj hu => by
      have h5 := World.ownsRow.cellAt hrow (m * 5 + j) (by omega)
      rw [h5, List.getElem?_append_right (by omega), hflen, show m * 5 + j - m * 5 = j from by omega]
      exact hu
    have hlx := World.ownsRow.cellAt hlev6 (n * 2 + 1) (by omega)
    refine ⟨bq, cap, rfl, hne, fun e => hne e.symm, blk_lt hbk, (World.ownsRow.lt hlev6 vb rfl).2, ⟨hcell 0 _ (by omega) rfl, hcell 1 _ (by omega) rfl, hcell 2 _ (by omega) rfl, hcell 3 _ (by omega) rfl, hcell 4 _ (by omega) rfl⟩, fun j => frozen_of_row w6 bq j cur 44 hbk, ?_, fun j => World.ownsRow.frozenAt hlev6 j, hlev6⟩
    rw [hlx, fm_at lc_len (lo ++ [x]) n x (by rw [List.getElem?_append_right (by omega)]; simp [hn]) 1 (by omega)]
    rfl
theorem add_fin {X w6 Z : World} {base far g vb n m n0 capv : Nat} {v q' vq : Value} {lo : List LV} {x : LV} {ln : K.Line} {a : K.L} {r : List K.L} (hms : MS base far g (.slice (some ⟨vb, 0, none⟩) (n + 1) capv) (lo ++ [x]) X) (hlo : lo.length = n) (hm : x.es.length = m) (hxq : x.q = vq) (hlor : lo.reverse.map LV.abs = r) (hxa : LV.abs x = a)
    (hg6 : (X.alloc (.cells zero5 44)).grownBy w6 vq.ownBlock) (hob : q'.ownBlock = vq.ownBlock ∨ q'.ownBlock = some (X.heap.size + 1)) (hv : Txs n0 v ln.node.list X) (h0 : far ≤ n0) (hf : LineFit ln) (hb : base ≤ X.heap.size)
    (hz : AddZ base far vb q' (.slice (some ⟨vb, 0, none⟩) (n + 1) capv) n m (x.es.flatMap kc ++ kc (ln.key, ln.node.nd, v, .slice none 0 0)) (((lo ++ [x]).flatMap lc).set (n * 2 + 1) q') w6 Z) :
    MR base far g ((a.1, a.2 ++ [(ln.key, ln.node.nd)]) :: r) Z ∧ Bo base X Z := by
  subst hxq
  have hz' : AddZ base far vb q' (.slice (some ⟨vb, 0, none⟩) (n + 1) capv) n m ((x.es ++ [((ln.key, ln.node.nd, v, .slice none 0 0) : E)]).flatMap kc) ((lo ++ [(⟨x.ind, q', x.es ++ [(ln.key, ln.node.nd, v, .slice none 0 0)]⟩ : LV)]).flatMap lc) w6 Z := by
    rw [List.flatMap_append, List.flatMap_singleton, ← lev_set lo x q' _, hlo]
    exact hz
  have hl := hf.each
  have hf1 := hf.text
  have hf2 := hf.kind
  have hf3 := hf.list
  have hr := MS.add hms (vb := vb) rfl hg6 hob hz' hlo hm hf.key (Rep.of ⟨by show ln.node.kind ≤ 255; omega, by show ln.node.text.length ≤ _; omega, by show ln.node.list.length * 16 ≤ _; omega, by show 0 * 88 ≤ _; omega⟩
    (hv.rep h0 hl (fun q hq => by obtain ⟨l, hl, rfl⟩ := List.mem_map.1 hq; exact ⟨_, _, (hms.keys l hl).row⟩)) (RepK.nil _ _)) hb
  refine ⟨⟨_, _, hr.1, ?_⟩, hr.2⟩
  rw [List.reverse_append, List.map_append, hlor, ← hxa]
  simp [LV.abs, E.kn]
set_option maxHeartbeats 8000000 in
theorem add_any (w : World) (base far g n0 : Nat) (st : List K.L) (ln : K.Line) (v : Value) (h : MR base far g st w) (hok : K.Ok st) (hw : K.Wait st) (hv : Txs n0 v ln.node.list w) (h0 : far ≤ n0) (hf : LineFit ln) (hb : base ≤ w.heap.size) (hfw : far ≤ w.heap.size) :
    Calls Tryz.prog 31 #[.pointer (some ⟨g, 0, none⟩), .agg (lcells ln v)] w (DP base far g w (K.add st ln)) := by
  obtain ⟨o, ho⟩ : ∃ o, K.add st ln = o := ⟨_, rfl⟩
  rw [ho]
  obtain ⟨advv, capv0, rfl, _⟩ := row_form hv
  obtain ⟨X, hX⟩ : ∃ X, X = w.alloc (.cells (lcells ln (.slice advv ln.node.list.length capv0)) 71) := ⟨_, rfl⟩
  obtain ⟨hbx, hhb⟩ : ∃ hbx, hbx = w.heap.size := ⟨_, rfl⟩
  have hBX : Below w.heap.size w X := by rw [hX]; exact (Below.refl _ w).alloc (Nat.le_refl _) _
  have hbox : X.heap[hbx]? = some (.cells (lcells ln (.slice advv ln.node.list.length capv0)) 71 (0, 0)) := by rw [hX, hhb]; exact blk_new w _
  have hre := reach_any X base far g st ln.indent (h.under hBX) hok hw hf.ind (Nat.le_trans hb hBX.size)
  have HBX := Lib.hid hbox
  have HV := Lib.hid (hv.under hBX)
  have HXX := Lib.hid (And.intro hX hhb)
  have HB := Lib.hid (Bo.of_below hBX hb)
  have HF := Lib.hid hf
  have HO := Lib.hid ho
  have Hb := Lib.hid (show base ≤ w.heap.size ∧ far ≤ n0 ∧ far ≤ w.heap.size from ⟨hb, h0, hfw⟩)
  have HRE := Lib.hid hre
  obtain ⟨c0, c1, c2, c3, c4, c5⟩ := box6 hbox
  have hlb := blk_lt hbox
  generalize hLN : ln.node.list.length = ll at *
  have HLN := Lib.hid hLN
  clear hX hhb hBX hbox hre h hok hw hv hf ho hb h0 hLN hfw
  go_enter Tryz.func31, Tryz.ntmps31
  go_upto_region 1 with (fail)
  rw [← HXX.out.1, ← HXX.out.2]
  go_wp2_with fail
  refine (HRE.out).mono ?_
  intro e w1 hD
  have hO := HO.out
  unfold K.add at hO
  clear c0 c1 c2 c3 c4 c5 hlb
  cases hr : K.reach ln.indent st with
  | none =>
    rw [hr] at hD hO
    obtain ⟨hb1, rfl⟩ := hD
    go_wp2
    rw [← hO]
    exact ⟨rfl, HB.out.trans hb1, rfl⟩
  | some st1 =>
    rw [hr] at hD hO
    simp only at hO
    obtain ⟨hb1, rfl, hm1, hok1⟩ := hD
    have hbox1 := hb1.oth.2 hbx _ HBX.out (fun cs t f e => by injection e with _ e; subst e; decide)
    have HV1 := Lib.hid (HV.out.oth hb1.oth)
    have HB1 := Lib.hid (HB.out.trans hb1)
    have HM1 := Lib.hid hm1
    have HOK1 := Lib.hid hok1
    have HO1 := Lib.hid hO
    have HBX1 := Lib.hid hbox1
    clear hO hr hb1 hm1 hok1 hbox1 HV HB HRE HO
    cases st1 with
    | nil => obtain ⟨r, x, e, _⟩ := HOK1.out.bot; exact absurd e (by simp)
    | cons a r =>
      obtain ⟨c0, c1, c2, c3, c4, c5⟩ := box6 HBX1.out
      have hlb := blk_lt HBX1.out
      obtain ⟨vb, cap, q, es, act, ⟨d0, e0, hlg⟩, hvl, d1, d2, hkr, hes⟩ := HM1.out.top
      have hrl : r.length ≤ 8 := by have := HOK1.out.len; simp at this; omega
      obtain ⟨n, hn⟩ : ∃ n, r.length = n := ⟨_, rfl⟩
      rw [hn] at d0 d1 d2 hrl
      have Hn := Lib.hid hn
      have HKR := Lib.hid (And.intro hkr hes)
      clear hn hkr hes
      obtain ⟨kd, hkd⟩ : ∃ k, ln.node.kind = k := ⟨_, rfl⟩
      rw [hkd] at c2
      have HKD := Lib.hid hkd
      clear hkd
      go_upto_region 2 with (fail)
      go_cut [4] from 5 (fun v W => w1 = W ∧ v = undef ∧ ¬ (ln.node.kind = 0 ∧ ¬ r.length + 1 ≤ 8))
      case first =>
        by_cases hk0 : kd = 0
        · by_cases h8 : n + 1 ≤ 8
          · have h8' : (n : Int) + 1 ≤ 8 := by omega
            have HC1 := Lib.hid (show ¬ (ln.node.kind = 0 ∧ ¬ r.length + 1 ≤ 8) by rw [Hn.out]; omega)
            subst hk0
            clear h8 HO1
            go_wp2_with fail
            refine (unless_yes 11 w1).mono ?_
            rintro e w2 ⟨rfl, rfl⟩
            go_wp2
            go_meet
            case rel => exact ⟨rfl, rfl, HC1.out⟩
          · have h8' : ¬ (n : Int) + 1 ≤ 8 := by omega
            have hd8 : decide ((n : Int) + 1 ≤ 8) = false := decide_eq_false h8'
            have hO' : o = .error 11 := by rw [← HO1.out]; show (if _ then _ else _) = _; exact if_pos ⟨HKD.out.trans hk0, by rw [Hn.out]; exact h8⟩
            have HO2 := Lib.hid hO'
            subst hk0
            clear hO' h8 HO1
            go_wp2_with fail
            refine (unless_no 11 w1).mono ?_
            rintro e w2 ⟨rfl, rfl⟩
            go_wp2
            rw [HO2.out]
            exact ⟨rfl, HB1.out, rfl⟩
        · have hk0' : ((kd : Int) == 0) = false := by simp; omega
          have hk0'' : ((kd : Int) != 0) = true := by simp; omega
          have HC1 := Lib.hid (show ¬ (ln.node.kind = 0 ∧ ¬ r.length + 1 ≤ 8) by rw [HKD.out]; omega)
          clear hk0 HO1
          go_wp2_with fail
          refine (unless_yes 11 w1).mono ?_
          rintro e w2 ⟨rfl, rfl⟩
          go_wp2
          go_meet
          case rel => exact ⟨rfl, rfl, HC1.out⟩
      case rest =>
        obtain ⟨rfl, rfl, hc1⟩ := hcut
        have HC1 := Lib.hid hc1
        clear hc1
        have hlong : ∀ W, Calls Tryz.prog 50 #[S ln.node.text] W fun e w' => e = .returned (.bool (decide (4096 < ln.node.text.length))) ∧ W = w' := fun W => long_any _ W
        obtain ⟨b1, hb1⟩ : ∃ b, decide (4096 < ln.node.text.length) = b := ⟨_, rfl⟩
        rw [hb1] at hlong
        have Hb1 := Lib.hid hb1
        clear hb1
        cases b1 with
        | true =>
          have hO' : o = .error 4 := by rw [← HO1.out]; show (if _ then _ else if _ then _ else _) = _; rw [if_neg HC1.out]; exact if_pos (by rw [Hb1.out]; rfl)
          have HO2 := Lib.hid hO'
          clear hO' HO1
          go_wp2_with (go_at_call 50; refine (hlong _).mono ?_; rintro e w2 ⟨rfl, rfl⟩)
          refine (unless_no 4 w1).mono ?_
          rintro e w2 ⟨rfl, rfl⟩
          go_wp2
          rw [HO2.out]
          exact ⟨rfl, HB1.out, rfl⟩
        | false =>
          have hct := contains_texts w1 _ ln.node.list 50 _ (HV1.out.any HF.out.each) (test50 w1)
          obtain ⟨b2, hb2⟩ : ∃ b, (ln.node.list.any fun s => decide (4096 < s.length)) = b := ⟨_, rfl⟩
          rw [hb2] at hct
          have Hb2 := Lib.hid hb2
          have HCT := Lib.hid hct
          clear hb2 hct
          cases b2 with
          | true =>
            have hO' : o = .error 4 := by rw [← HO1.out]; show (if _ then _ else if _ then _ else _) = _; rw [if_neg HC1.out]; exact if_pos (by rw [Hb1.out, Hb2.out]; rfl)
            have HO2 := Lib.hid hO'
            clear hO' HO1
            go_wp2_with (first | (go_at_call 50; refine (hlong _).mono ?_; rintro e w2 ⟨rfl, rfl⟩) | (go_at_call 51; refine (HCT.out).mono ?_; rintro e w2 ⟨rfl, hbw⟩))
            refine (unless_no 4 w2).mono ?_
            rintro e w3 ⟨rfl, rfl⟩
            go_wp2
            rw [HO2.out]
            exact ⟨rfl, HB1.out.trans (.of_below hbw (Nat.le_trans Hb.out.1 HB1.out.low.size)), rfl⟩
          | false =>
            have hc2 : ¬ ((decide (4096 < ln.node.text.length) || ln.node.list.any fun s => decide (4096 < s.length)) = true) := by rw [Hb1.out, Hb2.out]; decide
            have HC2 := Lib.hid hc2
            clear hc2
            go_wp2_with (first | (go_at_call 50; refine (hlong _).mono ?_; rintro e w2 ⟨rfl, rfl⟩) | (go_at_call 51; refine (HCT.out).mono ?_; rintro e w2 ⟨rfl, hbw⟩))
            refine (unless_yes 4 w2).mono ?_
            rintro e w3 ⟨rfl, rfl⟩
            have HM2 := Lib.hid (HM1.out.under hbw)
            have HBX2 := Lib.hid (blk_under HBX1.out hbw)
            have HV2 := Lib.hid (HV1.out.under hbw)
            have HB2 := Lib.hid (HB1.out.trans (.of_below hbw (Nat.le_trans Hb.out.1 HB1.out.low.size)))
            clear hbw c0 c1 c2 c3 c4 c5 hlb d0 d1 d2 e0 hvl hlg HKR HCT hlong
            obtain ⟨c0, c1, c2, c3, c4, c5⟩ := box6 HBX2.out
            have hlb := blk_lt HBX2.out
            by_cases h256 : ll ≤ 256
            rotate_left
            · have h256' : ¬ (ll : Int) ≤ 256 := by omega
              have hd256 : decide ((ll : Int) ≤ 256) = false := decide_eq_false h256'
              have hO' : o = .error 3 := by rw [← HO1.out]; show (if _ then _ else if _ then _ else if _ then _ else _) = _; rw [if_neg HC1.out, if_neg HC2.out]; exact if_pos (by rw [HLN.out]; exact h256)
              have HO2 := Lib.hid hO'
              clear hO' HO1 h256
              go_wp2_with fail
              refine (unless_no 3 w2).mono ?_
              rintro e w3 ⟨rfl, rfl⟩
              go_wp2
              rw [HO2.out]
              exact ⟨rfl, HB2.out, rfl⟩
            have h256' : (ll : Int) ≤ 256 := by omega
            have HC3 := Lib.hid (show ¬ ¬ ln.node.list.length ≤ 256 from by rw [HLN.out]; omega)
            clear h256
            obtain ⟨vv, lo, x, vb, capv, hms, rfl, hlo, hlor, hxa⟩ := HM2.out.split
            rw [Hn.out] at hms hlo
            obtain ⟨vb', cap', heq, hvbb, hvl, d1, d2⟩ := hms.at (i := n) (a := x) (by rw [List.getElem?_append_right (by omega)]; simp [hlo])
            have hll : (lo ++ [x]).length = n + 1 := by simp; omega
            rw [hll] at heq
            simp only [Value.slice.injEq, Option.some.injEq, Addr.mk.injEq, and_true, true_and] at heq
            obtain ⟨rfl, rfl⟩ := heq
            have d0 := cell_of_row w2 g 0 _ 65 (0, 0) hms.box
            simp at d0
            have hlg := hms.lt
            have hla : ∀ W, Calls Tryz.prog 52 #[.slice (some ⟨vb, 0, none⟩) (n + 1) capv] W fun e w' => e = .returned (.pointer (some ⟨vb, n * 2, none⟩)) ∧ W = w' := fun W => by
              have := last_any W vb (n + 1) capv (by omega) (by omega)
              simpa using this
            have hkx := hms.keys x (by simp)
            obtain ⟨adq, capq, hxq, _⟩ := row_form hkx.row
            obtain ⟨m, hm⟩ : ∃ m, x.es.length = m := ⟨_, rfl⟩
            rw [hm] at hxq
            rw [hxq] at d2
            have hfk := find_any w2.drew (.slice adq m capq) (x.es.map E.kn) ln.key (by rw [← hxq]; exact hkx.data'.under (Below.refl _ w2).drew)
            have HX := Lib.hid (show lo.length = n ∧ x.es.length = m ∧ x.q = .slice adq m capq ∧ lo.reverse.map LV.abs = r ∧ LV.abs x = a from ⟨hlo, hm, hxq, hlor, hxa⟩)
            have HMS := Lib.hid hms
            have HKX := Lib.hid hkx
            have hak : a.2 = x.es.map E.kn := by rw [← hxa]; rfl
            have HAK := Lib.hid hak
            have ham : m ≤ 256 := by have := HOK1.out.few a (by simp); rw [hak] at this; simp at this; omega
            clear hak
            obtain ⟨fd, hfd⟩ : ∃ fd, K.find (x.es.map E.kn) ln.key = fd := ⟨_, rfl⟩
            rw [hfd] at hfk
            have HFD := Lib.hid hfd
            have HFK := Lib.hid hfk
            have hlx := HKX.out.row
            clear hfd hfk hms hkx hm hxq hlo hlor hxa hll HM1 HM2
            go_upto_region 6 with (first | (go_at_call 49; refine (unless_yes 3 w2).mono ?_; rintro e w3 ⟨rfl, rfl⟩) | (go_at_call 52; refine (hla _).mono ?_; rintro e w3 ⟨rfl, rfl⟩))
            cases fd with
            | some i =>
              have hO' : o = .error 15 := by
                rw [← HO1.out]; show (if _ then _ else if _ then _ else if _ then _ else if _ then _ else _) = _
                rw [if_neg HC1.out, if_neg HC2.out, if_neg HC3.out]; exact if_pos (by rw [HAK.out, HFD.out]; rfl)
              have HO2 := Lib.hid hO'
              have hi0 : ¬ (i : Int) < 0 := by omega
              have hdi : decide ((i : Int) < 0) = false := decide_eq_false hi0
              clear hO' HO1
              refine wp_region_any (by kernel_rfl) ?_
              refine wpAny_take (i := 0) (v := ?va1) rfl (by kernel_rfl) (by kernel_rfl) (by kernel_rfl) (fun _ _ _ h => h) (Or.inl ⟨by kernel_rfl, ?ha1⟩) ?ra1
              case ha1 => (intro w; go_simp; first | done | (with_reducible rfl))
              refine wpAny_take (i := 1) (v := ?va2) rfl (by kernel_rfl) (by kernel_rfl) (by kernel_rfl) (fun _ _ _ h => h) (Or.inl ⟨by kernel_rfl, ?ha2⟩) ?ra2
              case ha2 => (intro w; go_simp; first | done | (with_reducible rfl))
              refine wpAny_take (i := 2) (v := ?va3) rfl (by kernel_rfl) (by kernel_rfl) (by kernel_rfl) (fun _ _ _ h => h) (Or.inl ⟨by kernel_rfl, ?ha3⟩) ?ra3
              case ha3 => (intro w; go_simp; first | done | (with_reducible rfl))
              refine wpAny_take (i := 4) (v := ?va4) rfl (by kernel_rfl) (by kernel_rfl) (by kernel_rfl) (fun _ _ _ h => h) (Or.inl ⟨by kernel_rfl, ?ha4⟩) ?ra4
              case ha4 => (intro w; go_simp; first | done | (with_reducible rfl))
              refine wpAny_ready (rs := [3, 5]) (by kernel_rfl) (by simp) ?_
              refine AllReady.cons rfl (fun K hK => ?_) ?_
              · skip
                go_simp
                refine hK _ _ ?_
                clear hK K
                refine wpAny_ready (rs := [5]) (by kernel_rfl) (by simp) ?_
                refine AllReady.cons rfl (fun K hK => ?_) AllReady.nil
                go_simp
                refine hK _ _ ?_
                clear hK K
                refine wpAny_ready (rs := [6]) (by kernel_rfl) (by simp) ?_
                refine AllReady.cons rfl (fun K hK => ?_) AllReady.nil
                go_simp
                go_at_call 35
                refine (HFK.out).mono ?_
                rintro e w3 ⟨rfl, hb3⟩
                simp only [atI]
                refine hK _ _ ?_
                clear hK K
                refine wpAny_take (i := 7) (v := ?va5) rfl (by kernel_rfl) (by kernel_rfl) (by kernel_rfl) (fun _ _ _ h => h) (Or.inl ⟨by kernel_rfl, ?ha5⟩) ?ra5
                case ha5 => (intro w; go_simp; first | done | (with_reducible rfl))
                refine wpAny_ready (rs := [8]) (by kernel_rfl) (by simp) ?_
                refine AllReady.cons rfl (fun K hK => ?_) AllReady.nil
                go_simp
                go_at_call 49
                refine (unless_no 15 w3).mono ?_
                rintro en w4 ⟨rfl, rfl⟩
                refine ⟨rfl, ?_⟩
                rw [HO2.out]
                exact ⟨HB2.out.trans (.of_below ((Below.refl _ w2).drew.trans hb3) (Nat.le_trans Hb.out.1 HB2.out.low.size)), rfl⟩
              refine AllReady.cons rfl (fun K hK => ?_) AllReady.nil
              go_simp
              refine hK _ _ ?_
              clear hK K
              refine wpAny_ready (rs := [3]) (by kernel_rfl) (by simp) ?_
              refine AllReady.cons rfl (fun K hK => ?_) AllReady.nil
              go_simp
              refine hK _ _ ?_
              clear hK K
              refine wpAny_ready (rs := [6]) (by kernel_rfl) (by simp) ?_
              refine AllReady.cons rfl (fun K hK => ?_) AllReady.nil
              go_simp
              go_at_call 35
              refine (HFK.out).mono ?_
              rintro e w3 ⟨rfl, hb3⟩
              simp only [atI]
              refine hK _ _ ?_
              clear hK K
              refine wpAny_take (i := 7) (v := ?va6) rfl (by kernel_rfl) (by kernel_rfl) (by kernel_rfl) (fun _ _ _ h => h) (Or.inl ⟨by kernel_rfl, ?ha6⟩) ?ra6
              case ha6 => (intro w; go_simp; first | done | (with_reducible rfl))
              refine wpAny_ready (rs := [8]) (by kernel_rfl) (by simp) ?_
              refine AllReady.cons rfl (fun K hK => ?_) AllReady.nil
              go_simp
              go_at_call 49
              refine (unless_no 15 w3).mono ?_
              rintro en w4 ⟨rfl, rfl⟩
              refine ⟨rfl, ?_⟩
              rw [HO2.out]
              exact ⟨HB2.out.trans (.of_below ((Below.refl _ w2).drew.trans hb3) (Nat.le_trans Hb.out.1 HB2.out.low.size)), rfl⟩

            | none =>
              have hdi : decide ((-1 : Int) < 0) = true := by decide
              go_cut [4] from 44 (fun v W => v = .pointer (some ⟨vb, n * 2, none⟩) ∧ Below w2.heap.size w2 W)
              case first =>
                refine wp_region_any (by kernel_rfl) ?_
                refine wpAny_take (i := 0) (v := ?vb1) rfl (by kernel_rfl) (by kernel_rfl) (by kernel_rfl) (fun _ _ _ h => h) (Or.inl ⟨by kernel_rfl, ?hb1⟩) ?rb1
                case hb1 => (intro w; go_simp; first | done | (with_reducible rfl))
                refine wpAny_take (i := 1) (v := ?vb2) rfl (by kernel_rfl) (by kernel_rfl) (by kernel_rfl) (fun _ _ _ h => h) (Or.inl ⟨by kernel_rfl, ?hb2⟩) ?rb2
                case hb2 => (intro w; go_simp; first | done | (with_reducible rfl))
                refine wpAny_take (i := 2) (v := ?vb3) rfl (by kernel_rfl) (by kernel_rfl) (by kernel_rfl) (fun _ _ _ h => h) (Or.inl ⟨by kernel_rfl, ?hb3⟩) ?rb3
                case hb3 => (intro w; go_simp; first | done | (with_reducible rfl))
                refine wpAny_take (i := 4) (v := ?vb4) rfl (by kernel_rfl) (by kernel_rfl) (by kernel_rfl) (fun _ _ _ h => h) (Or.inl ⟨by kernel_rfl, ?hb4⟩) ?rb4
                case hb4 => (intro w; go_simp; first | done | (with_reducible rfl))
                refine wpAny_ready (rs := [3, 5]) (by kernel_rfl) (by simp) ?_
                refine AllReady.cons rfl (fun K hK => ?_) ?_
                · skip
                  go_simp
                  refine hK _ _ ?_
                  clear hK K
                  refine wpAny_ready (rs := [5]) (by kernel_rfl) (by simp) ?_
                  refine AllReady.cons rfl (fun K hK => ?_) AllReady.nil
                  go_simp
                  refine hK _ _ ?_
                  clear hK K
                  refine wpAny_ready (rs := [6]) (by kernel_rfl) (by simp) ?_
                  refine AllReady.cons rfl (fun K hK => ?_) AllReady.nil
                  go_simp
                  go_at_call 35
                  refine (HFK.out).mono ?_
                  rintro e w3 ⟨rfl, hb3⟩
                  simp only [atI]
                  refine hK _ _ ?_
                  clear hK K
                  refine wpAny_take (i := 7) (v := ?vb5) rfl (by kernel_rfl) (by kernel_rfl) (by kernel_rfl) (fun _ _ _ h => h) (Or.inl ⟨by kernel_rfl, ?hb5⟩) ?rb5
                  case hb5 => (intro w; go_simp; first | done | (with_reducible rfl))
                  refine wpAny_ready (rs := [8]) (by kernel_rfl) (by simp) ?_
                  refine AllReady.cons rfl (fun K hK => ?_) AllReady.nil
                  go_simp
                  go_at_call 49
                  refine (unless_yes 15 w3).mono ?_
                  rintro en w4 ⟨rfl, rfl⟩
                  refine hK _ _ ?_
                  clear hK K
                  refine wpAny_done (by kernel_rfl) ?_ _
                  go_wp2
                  go_meet
                  case rel => exact ⟨rfl, (Below.refl _ w2).drew.trans hb3⟩
                refine AllReady.cons rfl (fun K hK => ?_) AllReady.nil
                go_simp
                refine hK _ _ ?_
                clear hK K
                refine wpAny_ready (rs := [3]) (by kernel_rfl) (by simp) ?_
                refine AllReady.cons rfl (fun K hK => ?_) AllReady.nil
                go_simp
                refine hK _ _ ?_
                clear hK K
                refine wpAny_ready (rs := [6]) (by kernel_rfl) (by simp) ?_
                refine AllReady.cons rfl (fun K hK => ?_) AllReady.nil
                go_simp
                go_at_call 35
                refine (HFK.out).mono ?_
                rintro e w3 ⟨rfl, hb3⟩
                simp only [atI]
                refine hK _ _ ?_
                clear hK K
                refine wpAny_take (i := 7) (v := ?vb6) rfl (by kernel_rfl) (by kernel_rfl) (by kernel_rfl) (fun _ _ _ h => h) (Or.inl ⟨by kernel_rfl, ?hb6⟩) ?rb6
                case hb6 => (intro w; go_simp; first | done | (with_reducible rfl))
                refine wpAny_ready (rs := [8]) (by kernel_rfl) (by simp) ?_
                refine AllReady.cons rfl (fun K hK => ?_) AllReady.nil
                go_simp
                go_at_call 49
                refine (unless_yes 15 w3).mono ?_
                rintro en w4 ⟨rfl, rfl⟩
                refine hK _ _ ?_
                clear hK K
                refine wpAny_done (by kernel_rfl) ?_ _
                go_wp2
                go_meet
                case rel => exact ⟨rfl, (Below.refl _ w2).drew.trans hb3⟩

              case rest =>
                obtain ⟨rfl, hbc⟩ := hcut
                have HM3 := Lib.hid (HMS.out.under hbc)
                have HBX3 := Lib.hid (blk_under HBX2.out hbc)
                have HV3 := Lib.hid (HV2.out.under hbc)
                have HB3 := Lib.hid (HB2.out.trans (.of_below hbc (Nat.le_trans Hb.out.1 HB2.out.low.size)))
                have d2c := (hbc.cell (p := ⟨vb, n * 2 + 1, none⟩) hvl).trans d2
                have hvc := Nat.lt_of_lt_of_le hvl hbc.size
                clear hbc c0 c1 c2 c3 c4 c5 hlb d0 d1 d2 hlx HFK hla hvl hlg hdi HMS HKX
                obtain ⟨c0, c1, c2, c3, c4, c5⟩ := box6 HBX3.out
                have hlb := blk_lt HBX3.out
                by_cases hm2 : m < 256
                rotate_left
                · have hm2' : ¬ (m : Int) < 256 := by omega
                  have hd2 : decide ((m : Int) < 256) = false := decide_eq_false hm2'
                  have hO' : o = .error 3 := by
                    rw [← HO1.out]; show (if _ then _ else if _ then _ else if _ then _ else if _ then _ else if _ then _ else _) = _
                    rw [if_neg HC1.out, if_neg HC2.out, if_neg HC3.out, if_neg (by rw [HAK.out, HFD.out]; simp)]; exact if_pos (by rw [HAK.out, List.length_map, HX.out.2.1]; exact hm2)
                  have HO2 := Lib.hid hO'
                  clear hO' HO1 hm2
                  go_wp2_with fail
                  refine (unless_no 3 wc).mono ?_
                  rintro e w3 ⟨rfl, rfl⟩
                  go_wp2
                  rw [HO2.out]
                  exact ⟨rfl, HB3.out, rfl⟩
                have hm2' : (m : Int) < 256 := by omega
                have hO' : o = .ok ((a.1, a.2 ++ [(ln.key, ln.node.nd)]) :: r) := by
                  rw [← HO1.out]; show (if _ then _ else if _ then _ else if _ then _ else if _ then _ else if _ then _ else _) = _
                  rw [if_neg HC1.out, if_neg HC2.out, if_neg HC3.out, if_neg (by rw [HAK.out, HFD.out]; simp), if_neg (by rw [HAK.out, List.length_map, HX.out.2.1]; omega)]
                have HOK4 := Lib.hid (K.addTo_ok HOK1.out (HO1.out.trans hO'))
                have HO2 := Lib.hid hO'
                clear hO' HO1
                go_upto_region 8 with (go_at_call 49; refine (unless_yes 3 wc).mono ?_; rintro e w3 ⟨rfl, rfl⟩)
                have hbW : Below wc.heap.size wc wc.drew := (Below.refl _ wc).drew
                have hm4 := HM3.out.under hbW
                have hbx4 := blk_under HBX3.out hbW
                have HV4 := Lib.hid (HV3.out.under hbW)
                have HB4 := Lib.hid (HB3.out.trans (.of_below hbW (Nat.le_trans Hb.out.1 HB3.out.low.size)))
                have hrow8 := (hm4.keys x (by simp)).row
                rw [HX.out.2.1, HX.out.2.2.1] at hrow8
                have hbase8 : far ≤ wc.drew.heap.size := Nat.le_trans Hb.out.2.2 HB4.out.low.size
                have HM4 := Lib.hid hm4
                have HBX4 := Lib.hid hbx4
                have HR8 := Lib.hid hrow8
                have HB8 := Lib.hid hbase8
                have hml : m ≤ 1000000 := by omega
                have HML := Lib.hid hml
                have hlt8 : (m : Int) < (m : Int) + 1 := by omega
                clear hbW hm4 hbx4 hrow8 hbase8 hml hm2 ham
                refine Code.wp_mono (Q := fun e a' W => e = .normal ∧ a'.defers = [] ∧ ∃ bq capn w6, (w6.ownsRow far 44 5 (.slice (some ⟨bq, 0, none⟩) (m + 1) capn) (m + 1) (x.es.flatMap kc ++ zero5.toList) ∧ (wc.drew.alloc (.cells zero5 44)).grownBy w6 (Value.slice adq m capq).ownBlock ∧ ((Value.slice (some ⟨bq, 0, none⟩) (m + 1) capn).ownBlock = (Value.slice adq m capq).ownBlock ∨ (Value.slice (some ⟨bq, 0, none⟩) (m + 1) capn).ownBlock = some (wc.drew.heap.size + 1)) ∧ w6.ownsRow base 63 2 (.slice (some ⟨vb, 0, none⟩) (n + 1) capv) (n + 1) ((lo ++ [x]).flatMap lc)) ∧
                  (W = (((((w6.setCell ⟨bq, m * 5, none⟩ (S ln.key)).setCell ⟨bq, m * 5 + 1, none⟩ (.int .u8 (ln.node.kind : Int))).setCell ⟨bq, m * 5 + 2, none⟩ (S ln.node.text)).setCell ⟨bq, m * 5 + 3, none⟩ (.slice advv ll capv0)).setCell ⟨bq, m * 5 + 4, none⟩ (.slice none 0 0)).setCell ⟨vb, n * 2 + 1, none⟩ (.slice (some ⟨bq, 0, none⟩) (m + 1) capn) ∨
                   W = (((((w6.setCell ⟨vb, n * 2 + 1, none⟩ (.slice (some ⟨bq, 0, none⟩) (m + 1) capn)).setCell ⟨bq, m * 5, none⟩ (S ln.key)).setCell ⟨bq, m * 5 + 1, none⟩ (.int .u8 (ln.node.kind : Int))).setCell ⟨bq, m * 5 + 2, none⟩ (S ln.node.text)).setCell ⟨bq, m * 5 + 3, none⟩ (.slice advv ll capv0)).setCell ⟨bq, m * 5 + 4, none⟩ (.slice none 0 0))) ?post ?reg
                case post =>
                  rintro e a' W ⟨rfl, hdf, bq, capn, w6, ⟨h1, h2, h3, h4⟩, hW⟩
                  obtain ⟨tm, df⟩ := a'
                  simp only at hdf
                  subst hdf
                  have hz : AddZ base far vb (.slice (some ⟨bq, 0, none⟩) (m + 1) capn) (.slice (some ⟨vb, 0, none⟩) (n + 1) capv) n m (x.es.flatMap kc ++ kc (ln.key, ln.node.nd, .slice advv ll capv0, .slice none 0 0)) (((lo ++ [x]).flatMap lc).set (n * 2 + 1) (.slice (some ⟨bq, 0, none⟩) (m + 1) capn)) w6 W := by
                    rcases hW with rfl | rfl
                    · exact addZ_a h1 (by rw [fm_len kc_len, HX.out.2.1]) h4 (ln.key, ln.node.nd, .slice advv ll capv0, .slice none 0 0)
                    · exact addZ_b h1 (by rw [fm_len kc_len, HX.out.2.1]) h4 (ln.key, ln.node.nd, .slice advv ll capv0, .slice none 0 0)
                  obtain ⟨f1, f2⟩ := add_fin HM4.out HX.out.1 HX.out.2.1 HX.out.2.2.1 HX.out.2.2.2.1 HX.out.2.2.2.2 h2 h3 HV4.out Hb.out.2.1 HF.out (Nat.le_trans HM4.out.bf HB8.out) hz
                  go_end0
                  rw [HO2.out]
                  exact ⟨HB4.out.trans f2, rfl, f1, HOK4.out⟩
                case reg =>
                  go_region_law (refine step_app_z (w := wc.drew) rfl (.tmp 63) (.tmp 70) rfl far m (.slice adq m capq) (x.es.flatMap kc) (by rfl) HR8.out wc.heap.size (by rfl) (by rfl) HML.out HB8.out ?_; intro q' w6 hrow6 hg6 hob6; obtain ⟨bq, capn, rfl, hnb, hnb', hlb6, hlv6, ⟨z0, z1, z2, z3, z4⟩, hfz, hd6, hfv, hlev6⟩ := add_facts HM4.out HX.out.1 HX.out.2.1 HBX4.out hrow6 (by rw [HX.out.2.2.1]; exact hg6) (by rw [HX.out.2.2.1]; exact hob6); rw [HX.out.2.2.1] at hd6; have y0 := hfz (m * 5); have y1 := hfz (m * 5 + 1); have y2 := hfz (m * 5 + 2); have y3 := hfz (m * 5 + 3); have y4 := hfz (m * 5 + 4); have y5 := hfv (n * 2 + 1); have H6 := Lib.hid (And.intro hrow6 (And.intro hg6 (And.intro hob6 hlev6))); clear hfz hfv hrow6 hg6 hob6 hlev6)
                  all_goals
                    refine ⟨rfl, rfl, bq, capn, w6, H6.out, ?_⟩
                    first
                    | (left; with_reducible rfl)
                    | (right; with_reducible rfl)
end Go.Proofs.YtegobomfhdfodaaGreatDoor
