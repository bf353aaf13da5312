/- CONF: THE WALK OVER reach. -/
import Derived.Test.YtegobomfhdfodaaGreatDoorCt
namespace Go.Proofs.YtegobomfhdfodaaGreatDoor
open Go.RowKit
set_option maxRecDepth 100000
set_option linter.unusedVariables false
set_option linter.unusedSimpArgs false

namespace K
/-- a map begins, if the last key waits for one -/
def begins (ind : Nat) : List L → List L
  | a :: r => if waits a.2 && decide (a.1 < ind) then (ind, []) :: a :: r else a :: r
  | [] => []
def downF : Nat → Nat → List L → List L
  | f + 1, ind, a :: b :: r => if ind < a.1 then downF f ind (pop a b :: r) else a :: b :: r
  | _, _, st => st
def downs (ind : Nat) (st : List L) : List L := downF st.length ind st
def fin (ind : Nat) : List L → Option (List L)
  | a :: r => if ind = a.1 then some (a :: r) else none
  | [] => none
def reach (ind : Nat) (st : List L) : Option (List L) := fin ind (downs ind (begins ind st))
theorem downF_stop (f ind : Nat) (a : L) (r : List L) (h : ¬ ind < a.1) : downF f ind (a :: r) = a :: r := by
  cases f with
  | zero => rfl
  | succ f =>
    cases r with
    | nil => rfl
    | cons b r => exact if_neg h
/-- the last key waits where a map may begin -/
def Wait (st : List L) : Prop := ∀ a r, st = a :: r → waits a.2 = true → r.length + 1 ≤ 8
theorem waits_ne {l : List (T × Nd)} (h : waits l = true) : l ≠ [] := by rintro rfl; cases h
theorem Ok.begins {st : List L} (h : Ok st) (hw : Wait st) (ind : Nat) : Ok (begins ind st) := by
  cases st with
  | nil => exact h
  | cons a r =>
    show Ok (if (waits a.2 && decide (a.1 < ind)) = true then (ind, []) :: a :: r else a :: r)
    split
    · rename_i hc
      rw [Bool.and_eq_true] at hc
      obtain ⟨⟨s, x, e, hx⟩, ne, few, len⟩ := h
      refine ⟨⟨(ind, []) :: s, x, by rw [e]; rfl, hx⟩, fun b hb => ?_, fun b hb => ?_, ?_⟩
      · simp at hb
        rcases hb with rfl | hb
        · exact waits_ne hc.1
        · exact ne b (by simpa using hb)
      · rcases List.mem_cons.1 hb with rfl | hb
        · simp
        · exact few b hb
      · have := hw a r rfl hc.1; simp; omega
    · exact h
theorem Ok.downF : ∀ (f ind : Nat) {st : List L}, Ok st → Ok (downF f ind st)
  | 0, _, _, h => h
  | f + 1, ind, [], h => h
  | f + 1, ind, [a], h => h
  | f + 1, ind, (a : L) :: b :: r, h => by
    show Ok (if ind < a.1 then K.downF f ind (K.pop a b :: r) else a :: b :: r)
    split
    · exact Ok.downF f ind h.pop
    · exact h
end K
theorem waits_nil (w : World) (ind : Nat) (ad : Option Addr) (cap : Nat) : Calls Tryz.prog 83 #[.agg #[.int .i64 (ind : Int), .slice ad 0 cap]] w fun e w' => e = .returned (.bool false) ∧ Below w.heap.size w w' := by
  have hx := blk_new w (.cells #[.int .i64 (ind : Int), .slice ad 0 cap] 63)
  have c1 := cell_of_row _ w.heap.size 1 _ 63 (0, 0) hx
  simp at c1
  clear hx
  go_enter Tryz.func83, Tryz.ntmps83
  go_wp2
  go_ret
  exact ⟨rfl, (Below.refl _ w).alloc (Nat.le_refl _) _⟩
theorem waits_R (w : World) (ind : Nat) {base : Nat} {act : List Value} {q : Value} {es : List E} (h : KR w base act q es) (hl : es.length ≤ 1000) :
    Calls Tryz.prog 83 #[.agg #[.int .i64 (ind : Int), q]] w fun en w' => en = .returned (.bool (K.waits (es.map E.kn))) ∧ Below w.heap.size w w' := by
  obtain h0 | ⟨eb, e, h0⟩ := List.eq_nil_or_concat es
  · subst h0
    obtain ⟨ad, cap, rfl, _⟩ := row_form h.row
    exact waits_nil w ind ad cap
  · have h1 : es = eb ++ [e] := by simpa using h0
    subst h1
    have := waits_last w ind h (by simp at hl; omega)
    rw [show K.waits ((eb ++ [e]).map E.kn) = (e.2.1.k == 0) from by unfold K.waits; simp [E.kn]]
    exact this
/-- how reach, add end -/
def DP (base far g : Nat) (w : World) (o : Except Int (List K.L)) (e : Ending) (w' : World) : Prop :=
  Bo base w w' ∧ match o with
  | .ok st => e = .returned (.tuple #[]) ∧ MR base far g st w' ∧ K.Ok st
  | .error c => e = pan c
set_option maxHeartbeats 4000000 in
theorem reach_any (w : World) (base far g : Nat) (st : List K.L) (ind : Nat) (h : MR base far g st w) (hok : K.Ok st) (hw : K.Wait st) (hi : ind ≤ 1000000) (hb : base ≤ w.heap.size) :
    Calls Tryz.prog 48 #[.pointer (some ⟨g, 0, none⟩), .int .i64 (ind : Int)] w (DP base far g w (match K.reach ind st with | some st' => .ok st' | none => .error 15)) := by
  obtain ⟨R, hR⟩ : ∃ R, K.reach ind st = R := ⟨_, rfl⟩
  rw [hR]
  obtain ⟨o, ho⟩ : ∃ o, (match R with | some st' => .ok st' | none => .error 15 : Except Int (List K.L)) = o := ⟨_, rfl⟩
  rw [ho]
  have HO := Lib.hid ho
  clear ho
  cases st with
  | nil => obtain ⟨r, x, e, _⟩ := hok.bot; exact absurd e (by simp)
  | cons a r =>
    obtain ⟨vb, cap, q, es, act, ⟨c0, f0, hlg⟩, hvl, c1, c2, hkr, hes⟩ := h.top
    have hrl : r.length ≤ 9 := by have := hok.len; simp at this; omega
    have hla := fun W => lastR (w := w) (g := g) (a := a) (r := r) vb cap (by omega) W
    have hwt := waits_R w a.1 hkr (by have := hok.few a (by simp); rw [← hes] at this; simp at this; omega)
    rw [hes] at hwt
    obtain ⟨adq, capq, rfl, _⟩ := row_form hkr.row
    generalize es.length = nq at *
    have H := Lib.hid h
    have HOK := Lib.hid (hok.begins hw ind)
    have Hb := Lib.hid hb
    have HR := Lib.hid hR
    obtain ⟨ai, ak⟩ := a
    simp only at c1 hwt
    have hwlt : (ai : Int) < (ind : Int) ↔ ai < ind := by omega
    clear hkr hes hok hw hb hR h f0
    obtain ⟨n, hn⟩ : ∃ n, r.length = n := ⟨_, rfl⟩
    rw [hn] at c0 c1 c2 hla hrl
    have Hn := Lib.hid hn
    clear hn
    obtain ⟨wt, hwt0⟩ : ∃ b, K.waits ak = b := ⟨_, rfl⟩
    rw [hwt0] at hwt
    have HWT := Lib.hid hwt0
    clear hwt0
    cases wt with
    | false =>
      have hst : K.begins ind ((ai, ak) :: r) = (ai, ak) :: r := by show (if (K.waits ak && _) = true then _ else _) = _; rw [HWT.out]; rfl
      have HST := Lib.hid hst
      clear hst
      go_enter Tryz.func48, Tryz.ntmps48
      go_wp2_with (first | (go_at_call 52; refine (hla _).mono ?_; rintro e w1 ⟨rfl, rfl⟩) | (go_at_call 83; refine hwt.mono ?_; rintro e X ⟨rfl, hbX⟩))
      obtain ⟨st1, hst1⟩ : ∃ st1, st1 = (ai, ak) :: r := ⟨_, rfl⟩
      have HM1 := Lib.hid (show MR base far g st1 X by rw [hst1]; exact H.out.under hbX)
      have HOK1 := Lib.hid (show K.Ok st1 by rw [hst1, ← HST.out]; exact HOK.out)
      have HR1 := Lib.hid (show K.fin ind (K.downF st1.length ind st1) = R by rw [← HR.out]; unfold K.reach K.downs; rw [HST.out, hst1])
      have HB1 := Lib.hid (Bo.of_below hbX Hb.out)
      clear hst1 hbX H HOK HR HST Hn HWT c0 c1 c2 hla hrl hwt hwlt hlg hvl hi
      go_loopg [24, 25, 26, 27, 28, 29, 30, 31, 32, 33, 34] st1.length (fun gf v0 v1 v2 v3 v4 v5 v6 v7 v8 v9 v10 wx => ∃ st', MR base far g st' wx ∧ K.Ok st' ∧ K.fin ind (K.downF gf ind st') = R ∧ st'.length ≤ gf ∧ Bo base w wx)
      case atStart => exact ⟨st1, HM1.out, HOK1.out, HR1.out, Nat.le_refl _, HB1.out⟩
      case round =>
        obtain ⟨st', hm, hok, hall, hfu, hbo⟩ := hrel
        have HM := Lib.hid hm
        have HOK := Lib.hid hok
        have HBO := Lib.hid hbo
        have HALL := Lib.hid hall
        have hbw : base ≤ wr.heap.size := Nat.le_trans Hb.out hbo.low.size
        cases st' with
        | nil => obtain ⟨r, x, e, _⟩ := hok.bot; exact absurd e (by simp)
        | cons a r =>
          obtain ⟨vb, cap, q, es, act, ⟨c0, f0, hlg⟩, hvl, c1, c2, hkr, hes⟩ := hm.top
          have hrl : r.length ≤ 9 := by have := hok.len; simp at this; omega
          have hla := fun W => lastR (w := wr) (g := g) (a := a) (r := r) vb cap (by omega) W
          obtain ⟨ai, ak⟩ := a
          simp only at c1
          by_cases hlt : ind < ai
          · have hlt' : (ind : Int) < (ai : Int) := by omega
            cases r with
            | nil =>
              obtain ⟨s, x, e, hx⟩ := hok.bot
              have : s = [] := by cases s with
                | nil => rfl
                | cons y s => simp at e
              subst this
              simp at e
              subst e
              simp at hx
              omega
            | cons b r =>
              obtain ⟨k, rfl⟩ : ∃ k, gk = k + 1 := ⟨gk - 1, by simp at hfu; omega⟩
              have hen := end_R wr base far g (ai, ak) b r hm (hok.ne b (by simp)) (by simp at hrl; omega) (by have := hok.few (ai, ak) (by simp); omega) (by have := hok.few b (by simp); omega) hbw
              have HEN := Lib.hid hen
              have hnext : K.fin ind (K.downF k ind (K.pop (ai, ak) b :: r)) = R := by
                rw [← HALL.out, show K.downF (k + 1) ind ((ai, ak) :: b :: r) = K.downF k ind (K.pop (ai, ak) b :: r) from if_pos hlt]
              have HNEXT := Lib.hid hnext
              obtain ⟨n, hn⟩ : ∃ n, (b :: r).length = n := ⟨_, rfl⟩
              rw [hn] at c0 c1 c2 hla hrl
              clear hen hkr hes hm hok hall hbo hnext HALL hn
              go_wp2_with (first | (go_at_call 52; refine (hla _).mono ?_; rintro e w1 ⟨rfl, rfl⟩) | (go_at_call 59; refine (HEN.out).mono ?_; rintro e w1 ⟨rfl, hm1, hb1⟩))
              go_roundg k
              case measure => omega
              case rel => exact ⟨K.pop (ai, ak) b :: r, hm1, HOK.out.pop, HNEXT.out, by simp at hfu ⊢; omega, HBO.out.trans hb1⟩
          · have hlt' : ¬ (ind : Int) < (ai : Int) := by omega
            have hfin : K.fin ind ((ai, ak) :: r) = R := by rw [← HALL.out, K.downF_stop _ _ _ _ hlt]
            obtain ⟨n, hn⟩ : ∃ n, r.length = n := ⟨_, rfl⟩
            rw [hn] at c0 c1 c2 hla hrl
            have HFIN := Lib.hid hfin
            clear hkr hes hm hok hall hbo hfin HALL hn hfu
            by_cases he : ind = ai
            · subst he
              have hR' : R = some ((ind, ak) :: r) := by rw [← HFIN.out]; exact if_pos rfl
              have HR' := Lib.hid hR'
              clear hR' HFIN HR1
              go_wp2_with (go_at_call 52; refine (hla _).mono ?_; rintro e w1 ⟨rfl, rfl⟩)
              refine (unless_yes 15 wr).mono ?_
              rintro e w1 ⟨rfl, rfl⟩
              go_wp2
              go_end0
              rw [show o = .ok ((ind, ak) :: r) from by rw [← HO.out, HR'.out]]
              exact ⟨HBO.out, rfl, HM.out, HOK.out⟩
            · have he' : ((ind : Int) == (ai : Int)) = false := by simp; omega
              have hR' : R = none := by rw [← HFIN.out]; exact if_neg he
              have HR' := Lib.hid hR'
              clear hR' HFIN he HR1
              go_wp2_with (go_at_call 52; refine (hla _).mono ?_; rintro e w1 ⟨rfl, rfl⟩)
              refine (unless_no 15 wr).mono ?_
              rintro e w1 ⟨rfl, rfl⟩
              go_wp2
              rw [show o = .error 15 from by rw [← HO.out, HR'.out]]
              exact ⟨rfl, HBO.out, rfl⟩
    | true =>
      by_cases hlt0 : ai < ind
      · have hltI : (ai : Int) < (ind : Int) := by omega
        have hst : K.begins ind ((ai, ak) :: r) = (ind, []) :: (ai, ak) :: r := by show (if (K.waits ak && _) = true then _ else _) = _; rw [HWT.out, Bool.true_and]; exact if_pos (decide_eq_true hlt0)
        have HST := Lib.hid hst
        clear hst hlt0 hwlt
        have hbeg : ∀ X, Below w.heap.size w X → Calls Tryz.prog 84 #[.pointer (some ⟨g, 0, none⟩), .int .i64 (ind : Int)] X fun e w' => e = .returned (.tuple #[]) ∧ MR base far g ((ind, []) :: (ai, ak) :: r) w' ∧ Bo base X w' := fun X hbX => begin_R X base far g _ ind (H.out.under hbX) (by simp; have := Hn.out; omega) (Nat.le_trans Hb.out hbX.size)
        go_enter Tryz.func48, Tryz.ntmps48
        go_wp2_with (first | (go_at_call 52; refine (hla _).mono ?_; rintro e w1 ⟨rfl, rfl⟩) | (go_at_call 83; refine hwt.mono ?_; rintro e Y ⟨rfl, hbY⟩; have cY1 := (hbY.cell (p := ⟨vb, n * 2, none⟩) hvl).trans c1; have hvY := Nat.lt_of_lt_of_le hvl hbY.size) | (go_at_call 84; refine (hbeg _ hbY).mono ?_; rintro e X ⟨rfl, hmX, hbX⟩))
        obtain ⟨st1, hst1⟩ : ∃ st1, st1 = (ind, []) :: (ai, ak) :: r := ⟨_, rfl⟩
        have HM1 := Lib.hid (show MR base far g st1 X by rw [hst1]; exact hmX)
        have HOK1 := Lib.hid (show K.Ok st1 by rw [hst1, ← HST.out]; exact HOK.out)
        have HR1 := Lib.hid (show K.fin ind (K.downF st1.length ind st1) = R by rw [← HR.out]; unfold K.reach K.downs; rw [HST.out, hst1])
        have HB1 := Lib.hid ((Bo.of_below hbY Hb.out).trans hbX)
        clear hst1 hbX hbY hmX H HOK HR HST Hn HWT c0 c1 c2 hla hrl hwt hlg hvl hi hbeg cY1 hvY hltI
        go_loopg [24, 25, 26, 27, 28, 29, 30, 31, 32, 33, 34] st1.length (fun gf v0 v1 v2 v3 v4 v5 v6 v7 v8 v9 v10 wx => ∃ st', MR base far g st' wx ∧ K.Ok st' ∧ K.fin ind (K.downF gf ind st') = R ∧ st'.length ≤ gf ∧ Bo base w wx)
        case atStart => exact ⟨st1, HM1.out, HOK1.out, HR1.out, Nat.le_refl _, HB1.out⟩
        case round =>
          obtain ⟨st', hm, hok, hall, hfu, hbo⟩ := hrel
          have HM := Lib.hid hm
          have HOK := Lib.hid hok
          have HBO := Lib.hid hbo
          have HALL := Lib.hid hall
          have hbw : base ≤ wr.heap.size := Nat.le_trans Hb.out hbo.low.size
          cases st' with
          | nil => obtain ⟨r, x, e, _⟩ := hok.bot; exact absurd e (by simp)
          | cons a r =>
            obtain ⟨vb, cap, q, es, act, ⟨c0, f0, hlg⟩, hvl, c1, c2, hkr, hes⟩ := hm.top
            have hrl : r.length ≤ 9 := by have := hok.len; simp at this; omega
            have hla := fun W => lastR (w := wr) (g := g) (a := a) (r := r) vb cap (by omega) W
            obtain ⟨ai, ak⟩ := a
            simp only at c1
            by_cases hlt : ind < ai
            · have hlt' : (ind : Int) < (ai : Int) := by omega
              cases r with
              | nil =>
                obtain ⟨s, x, e, hx⟩ := hok.bot
                have : s = [] := by cases s with
                  | nil => rfl
                  | cons y s => simp at e
                subst this
                simp at e
                subst e
                simp at hx
                omega
              | cons b r =>
                obtain ⟨k, rfl⟩ : ∃ k, gk = k + 1 := ⟨gk - 1, by simp at hfu; omega⟩
                have hen := end_R wr base far g (ai, ak) b r hm (hok.ne b (by simp)) (by simp at hrl; omega) (by have := hok.few (ai, ak) (by simp); omega) (by have := hok.few b (by simp); omega) hbw
                have HEN := Lib.hid hen
                have hnext : K.fin ind (K.downF k ind (K.pop (ai, ak) b :: r)) = R := by
                  rw [← HALL.out, show K.downF (k + 1) ind ((ai, ak) :: b :: r) = K.downF k ind (K.pop (ai, ak) b :: r) from if_pos hlt]
                have HNEXT := Lib.hid hnext
                obtain ⟨n, hn⟩ : ∃ n, (b :: r).length = n := ⟨_, rfl⟩
                rw [hn] at c0 c1 c2 hla hrl
                clear hen hkr hes hm hok hall hbo hnext HALL hn
                go_wp2_with (first | (go_at_call 52; refine (hla _).mono ?_; rintro e w1 ⟨rfl, rfl⟩) | (go_at_call 59; refine (HEN.out).mono ?_; rintro e w1 ⟨rfl, hm1, hb1⟩))
                go_roundg k
                case measure => omega
                case rel => exact ⟨K.pop (ai, ak) b :: r, hm1, HOK.out.pop, HNEXT.out, by simp at hfu ⊢; omega, HBO.out.trans hb1⟩
            · have hlt' : ¬ (ind : Int) < (ai : Int) := by omega
              have hfin : K.fin ind ((ai, ak) :: r) = R := by rw [← HALL.out, K.downF_stop _ _ _ _ hlt]
              obtain ⟨n, hn⟩ : ∃ n, r.length = n := ⟨_, rfl⟩
              rw [hn] at c0 c1 c2 hla hrl
              have HFIN := Lib.hid hfin
              clear hkr hes hm hok hall hbo hfin HALL hn hfu
              by_cases he : ind = ai
              · subst he
                have hR' : R = some ((ind, ak) :: r) := by rw [← HFIN.out]; exact if_pos rfl
                have HR' := Lib.hid hR'
                clear hR' HFIN HR1
                go_wp2_with (go_at_call 52; refine (hla _).mono ?_; rintro e w1 ⟨rfl, rfl⟩)
                refine (unless_yes 15 wr).mono ?_
                rintro e w1 ⟨rfl, rfl⟩
                go_wp2
                go_end0
                rw [show o = .ok ((ind, ak) :: r) from by rw [← HO.out, HR'.out]]
                exact ⟨HBO.out, rfl, HM.out, HOK.out⟩
              · have he' : ((ind : Int) == (ai : Int)) = false := by simp; omega
                have hR' : R = none := by rw [← HFIN.out]; exact if_neg he
                have HR' := Lib.hid hR'
                clear hR' HFIN he HR1
                go_wp2_with (go_at_call 52; refine (hla _).mono ?_; rintro e w1 ⟨rfl, rfl⟩)
                refine (unless_no 15 wr).mono ?_
                rintro e w1 ⟨rfl, rfl⟩
                go_wp2
                rw [show o = .error 15 from by rw [← HO.out, HR'.out]]
                exact ⟨rfl, HBO.out, rfl⟩
      · have hltI : ¬ (ai : Int) < (ind : Int) := by omega
        have hst : K.begins ind ((ai, ak) :: r) = (ai, ak) :: r := by show (if (K.waits ak && _) = true then _ else _) = _; rw [HWT.out, Bool.true_and]; exact if_neg (by simpa using hlt0)
        have HST := Lib.hid hst
        have hd : decide (ai < ind) = false := decide_eq_false hlt0
        clear hst hlt0 hwlt
        go_enter Tryz.func48, Tryz.ntmps48
        go_wp2_with (first | (go_at_call 52; refine (hla _).mono ?_; rintro e w1 ⟨rfl, rfl⟩) | (go_at_call 83; refine hwt.mono ?_; rintro e X ⟨rfl, hbX⟩; have cY1 := (hbX.cell (p := ⟨vb, n * 2, none⟩) hvl).trans c1; have hvY := Nat.lt_of_lt_of_le hvl hbX.size))
        obtain ⟨st1, hst1⟩ : ∃ st1, st1 = (ai, ak) :: r := ⟨_, rfl⟩
        have HM1 := Lib.hid (show MR base far g st1 X by rw [hst1]; exact H.out.under hbX)
        have HOK1 := Lib.hid (show K.Ok st1 by rw [hst1, ← HST.out]; exact HOK.out)
        have HR1 := Lib.hid (show K.fin ind (K.downF st1.length ind st1) = R by rw [← HR.out]; unfold K.reach K.downs; rw [HST.out, hst1])
        have HB1 := Lib.hid (Bo.of_below hbX Hb.out)
        clear hst1 hbX H HOK HR HST Hn HWT c0 c1 c2 hla hrl hwt hlg hvl hi cY1 hvY hltI
        go_loopg [24, 25, 26, 27, 28, 29, 30, 31, 32, 33, 34] st1.length (fun gf v0 v1 v2 v3 v4 v5 v6 v7 v8 v9 v10 wx => ∃ st', MR base far g st' wx ∧ K.Ok st' ∧ K.fin ind (K.downF gf ind st') = R ∧ st'.length ≤ gf ∧ Bo base w wx)
        case atStart => exact ⟨st1, HM1.out, HOK1.out, HR1.out, Nat.le_refl _, HB1.out⟩
        case round =>
          obtain ⟨st', hm, hok, hall, hfu, hbo⟩ := hrel
          have HM := Lib.hid hm
          have HOK := Lib.hid hok
          have HBO := Lib.hid hbo
          have HALL := Lib.hid hall
          have hbw : base ≤ wr.heap.size := Nat.le_trans Hb.out hbo.low.size
          cases st' with
          | nil => obtain ⟨r, x, e, _⟩ := hok.bot; exact absurd e (by simp)
          | cons a r =>
            obtain ⟨vb, cap, q, es, act, ⟨c0, f0, hlg⟩, hvl, c1, c2, hkr, hes⟩ := hm.top
            have hrl : r.length ≤ 9 := by have := hok.len; simp at this; omega
            have hla := fun W => lastR (w := wr) (g := g) (a := a) (r := r) vb cap (by omega) W
            obtain ⟨ai, ak⟩ := a
            simp only at c1
            by_cases hlt : ind < ai
            · have hlt' : (ind : Int) < (ai : Int) := by omega
              cases r with
              | nil =>
                obtain ⟨s, x, e, hx⟩ := hok.bot
                have : s = [] := by cases s with
                  | nil => rfl
                  | cons y s => simp at e
                subst this
                simp at e
                subst e
                simp at hx
                omega
              | cons b r =>
                obtain ⟨k, rfl⟩ : ∃ k, gk = k + 1 := ⟨gk - 1, by simp at hfu; omega⟩
                have hen := end_R wr base far g (ai, ak) b r hm (hok.ne b (by simp)) (by simp at hrl; omega) (by have := hok.few (ai, ak) (by simp); omega) (by have := hok.few b (by simp); omega) hbw
                have HEN := Lib.hid hen
                have hnext : K.fin ind (K.downF k ind (K.pop (ai, ak) b :: r)) = R := by
                  rw [← HALL.out, show K.downF (k + 1) ind ((ai, ak) :: b :: r) = K.downF k ind (K.pop (ai, ak) b :: r) from if_pos hlt]
                have HNEXT := Lib.hid hnext
                obtain ⟨n, hn⟩ : ∃ n, (b :: r).length = n := ⟨_, rfl⟩
                rw [hn] at c0 c1 c2 hla hrl
                clear hen hkr hes hm hok hall hbo hnext HALL hn
                go_wp2_with (first | (go_at_call 52; refine (hla _).mono ?_; rintro e w1 ⟨rfl, rfl⟩) | (go_at_call 59; refine (HEN.out).mono ?_; rintro e w1 ⟨rfl, hm1, hb1⟩))
                go_roundg k
                case measure => omega
                case rel => exact ⟨K.pop (ai, ak) b :: r, hm1, HOK.out.pop, HNEXT.out, by simp at hfu ⊢; omega, HBO.out.trans hb1⟩
            · have hlt' : ¬ (ind : Int) < (ai : Int) := by omega
              have hfin : K.fin ind ((ai, ak) :: r) = R := by rw [← HALL.out, K.downF_stop _ _ _ _ hlt]
              obtain ⟨n, hn⟩ : ∃ n, r.length = n := ⟨_, rfl⟩
              rw [hn] at c0 c1 c2 hla hrl
              have HFIN := Lib.hid hfin
              clear hkr hes hm hok hall hbo hfin HALL hn hfu
              by_cases he : ind = ai
              · subst he
                have hR' : R = some ((ind, ak) :: r) := by rw [← HFIN.out]; exact if_pos rfl
                have HR' := Lib.hid hR'
                clear hR' HFIN HR1
                go_wp2_with (go_at_call 52; refine (hla _).mono ?_; rintro e w1 ⟨rfl, rfl⟩)
                refine (unless_yes 15 wr).mono ?_
                rintro e w1 ⟨rfl, rfl⟩
                go_wp2
                go_end0
                rw [show o = .ok ((ind, ak) :: r) from by rw [← HO.out, HR'.out]]
                exact ⟨HBO.out, rfl, HM.out, HOK.out⟩
              · have he' : ((ind : Int) == (ai : Int)) = false := by simp; omega
                have hR' : R = none := by rw [← HFIN.out]; exact if_neg he
                have HR' := Lib.hid hR'
                clear hR' HFIN he HR1
                go_wp2_with (go_at_call 52; refine (hla _).mono ?_; rintro e w1 ⟨rfl, rfl⟩)
                refine (unless_no 15 wr).mono ?_
                rintro e w1 ⟨rfl, rfl⟩
                go_wp2
                rw [show o = .error 15 from by rw [← HO.out, HR'.out]]
                exact ⟨rfl, HBO.out, rfl⟩
end Go.Proofs.YtegobomfhdfodaaGreatDoor
