/- THE LAW ValueHeld's checkOnce, WALKED. -/
import Derived.Test.YtnnnnlcpmocnfaaGreatDoorCk4
import Derived.Maps.Own
import Derived.Maps.OwnOps
import Derived.Maps.OwnSet
import Derived.Maps.Views
import Derived.Outline
import Derived.WalkLawsBesides
import Derived.Deep.RegionLaw
import Derived.Deep.RegionHeld3
namespace Go.Proofs.YtnnnnlcpmocnfaaGreatDoor
open Go.RowKit
set_option linter.unusedVariables false
set_option linter.unusedSimpArgs false
attribute [local go_sem] run_store_float


open Go.Maps Go.WideMaps
theorem Tryz.law9 : Keyed Tryz.prog 9 := string_keyed Tryz.underlying9
theorem Tryz.zero3 (w : World) : (zeroValue 3).run Tryz.prog w = .ok (.int .i64 0) w := by kernel_rfl

/-- once, if it is there -/
noncomputable def inL (s : ByteArray) (ks : List ByteArray) : Int := @ite Int (s ∈ ks) (Classical.propDecidable _) 1 0
theorem inL_yes {s : ByteArray} {ks : List ByteArray} (h : s ∈ ks) : inL s ks = 1 := by unfold inL; exact if_pos h
theorem inL_no {s : ByteArray} {ks : List ByteArray} (h : ¬ s ∈ ks) : inL s ks = 0 := by unfold inL; exact if_neg h
/-- why pairs are not right, all else apart: a key is there twice -/
noncomputable def onceErr (l : List (ByteArray × V)) : Int := @ite Int (l.map (·.1)).Nodup (Classical.propDecidable _) 0 6
theorem onceErr_ok {l : List (ByteArray × V)} (h : (l.map (·.1)).Nodup) : onceErr l = 0 := by unfold onceErr; exact if_pos h
theorem onceErr_no {l : List (ByteArray × V)} (h : ¬ (l.map (·.1)).Nodup) : onceErr l = 6 := by unfold onceErr; exact if_neg h
/-- the map of times: each of the first k keys once -/
def Once (ks : List ByteArray) (wr : World) (B k : Nat) : Prop :=
  ∃ D : DataW Unit, wr.ownsMap Tryz.prog 9 (plainElem (H := Unit) Tryz.prog 3) B k D ∧ ∀ s : ByteArray, D.atKey (.string s.data.toList) (.lit (.int .i64 0)) = .lit (.int .i64 (inL s (ks.take k)))
theorem bytes_inj {a b : ByteArray} (h : a.data.toList = b.data.toList) : a = b := ByteArray.ext (Array.toList_inj.1 h)
theorem Once.next {ks : List ByteArray} {w1 : World} {B k : Nat} {D : DataW Unit} {s : ByteArray} (hs : ks[k]? = some s) (hat : ∀ s : ByteArray, D.atKey (.string s.data.toList) (.lit (.int .i64 0)) = .lit (.int .i64 (inL s (ks.take k)))) (hm : IsMap D)
    (hown : w1.ownsMap Tryz.prog 9 (plainElem (H := Unit) Tryz.prog 3) B (k + 1) (D.put (.string s.data.toList) (.lit (.int .i64 1)))) : Once ks w1 B (k + 1) := by
  refine ⟨_, hown, fun t => ?_⟩
  have ht : ks.take (k + 1) = ks.take k ++ [s] := take_get hs
  by_cases e : t = s
  · subst e
    rw [atKey_put_same hm (by simp [WideAt.IsKeyLit]), inL_yes (by rw [ht]; simp)]
  · rw [atKey_put_other (fun h => e (bytes_inj (by simpa using h))), hat]
    have : (t ∈ ks.take (k + 1)) ↔ t ∈ ks.take k := by rw [ht]; simp [e]
    by_cases h : t ∈ ks.take k
    · rw [inL_yes h, inL_yes (this.2 h)]
    · rw [inL_no h, inL_no (fun h' => h (this.1 h'))]
theorem nodup_snoc {ks : List ByteArray} {k : Nat} {s : ByteArray} (hs : ks[k]? = some s) (h : (ks.take k).Nodup) (hn : s ∉ ks.take k) : (ks.take (k + 1)).Nodup := by
  rw [take_get hs, List.nodup_append]
  refine ⟨h, by simp, fun a ha b hb => ?_⟩
  simp at hb; subst hb
  exact fun e => hn (e ▸ ha)
theorem dup_not {ks : List ByteArray} {k : Nat} {s : ByteArray} (hs : ks[k]? = some s) (hn : s ∈ ks.take k) : ¬ ks.Nodup := by
  intro h
  have h1 : (ks.take (k + 1)).Nodup := h.sublist (List.take_sublist _ _)
  rw [take_get hs, List.nodup_append] at h1
  exact h1.2.2 s hn s (by simp) rfl

set_option maxRecDepth 100000 in
set_option maxHeartbeats 8000000 in
theorem once_any (l : List (ByteArray × V)) (w : World) (q : Value) (hq : RepP Any w q l) (hl112 : l.length * 112 ≤ 140737488353000) : Calls Tryz.prog 77 #[q] w (Chk (onceErr l) w) := by
  have hmm := @run_makeMap Tryz.prog
  obtain ⟨ad, cap, rfl, hl⟩ := hq.form
  obtain ⟨n, hn⟩ : ∃ n, n = l.length := ⟨_, rfl⟩
  rw [← hn] at hq hl hl112 ⊢
  have Hn := Lib.hid hn
  have Hq := Lib.hid hq
  have H112 := Lib.hid hl112
  clear hn hq hl112
  go_enter Tryz.func77, Tryz.ntmps77
  go_wp2
  clear hmm
  go_loopw [8] (fun i wr => ∃ (k : Nat), i = .int .i64 (k : Int) ∧ k ≤ n ∧ Go.RowKit.Hid (((l.map (·.1)).take k).Nodup ∧ Once (l.map (·.1)) wr w.heap.size k ∧ Below w.heap.size w wr)) (fun i _ => n - (intOf i).toNat)
  case atStart => exact ⟨0, rfl, by omega, by simp, ⟨_, World.ownsMap_made _ _ _ _, fun s => by rw [inL_no (by simp)]; rfl⟩, (Below.refl _ _).alloc (Nat.le_refl _) _⟩
  case round =>
    obtain ⟨k, rfl, hk, hinv⟩ := hrel
    obtain ⟨hnd, ⟨D, hown, hat⟩, hbel⟩ := hinv.out
    clear hinv
    have Hnd := Lib.hid hnd
    have Hat := Lib.hid hat
    have Hbel := Lib.hid hbel
    have Hown0 := Lib.hid hown
    clear hnd hat hbel hown
    by_cases hlt : k < n
    · obtain ⟨a, ha⟩ := get_at' (l := l) (k := k) (by rw [← Hn.out]; exact hlt)
      obtain ⟨g, o, c, d, rfl, hg, ⟨c0, c1, c2, c3, c4, c5, c6, c7⟩, hky, hrep⟩ := (Hq.out.under Hbel.out).at ha
      obtain ⟨adc, capc, rfl, _⟩ := hrep.parts.2.1.form
      obtain ⟨add, capd, rfl, _⟩ := hrep.parts.2.2.form
      have hk0 : (0 : Int) ≤ (k : Int) := by omega
      have hkn : (k : Int) < (n : Int) := by omega
      have hks : (l.map (·.1))[k]? = some a.1 := by rw [List.getElem?_map, ha]; rfl
      obtain ⟨ky, hkye⟩ : ∃ ky, ky = a.1 := ⟨_, rfl⟩
      rw [← hkye] at c0 hky hks
      have hkey : keyOf Tryz.prog 9 (.string ky) = some (.string ky.data.toList) := keyOf_string_mk Tryz.underlying9 (by unfold maxLen; omega)
      obtain ⟨W, hW⟩ : ∃ W, W = wr.alloc (.cells (pv ky a.2 (.slice adc a.2.l.length capc) (.slice add a.2.p.length capd)) 29) := ⟨_, rfl⟩
      have hBW : Below wr.heap.size wr W := by rw [hW]; exact (Below.refl _ _).alloc (Nat.le_refl _) _
      have hA : At8 W wr.heap.size 0 ky a.2 (.slice adc a.2.l.length capc) (.slice add a.2.p.length capd) := At8.box (t := 29) (by rw [hW]; exact blk_new wr _)
      have hownW : W.ownsMap Tryz.prog 9 (plainElem (H := Unit) Tryz.prog 3) w.heap.size k D := by rw [hW]; exact Hown0.out.alloc _
      have HA := Lib.hid hA
      have HownW := Lib.hid hownW
      have Hkey := Lib.hid hkey
      have Hks := Lib.hid hks
      have HW := Lib.hid hW
      have HBW := Lib.hid hBW
      have Hbel' := Lib.hid (Hbel.out.trans (hBW.mono Hbel.out.size))
      have Hlt := Lib.hid (show wr.heap.size < W.heap.size by rw [hW]; simp)
      have Hmap := Lib.hid (hownW.isMap)
      have hb63 : k < maxLen := by have := H112.out; unfold maxLen; omega
      have Hb63 := Lib.hid hb63
      obtain ⟨z0, z1, z2, z3, z4, z5, z6, z7⟩ := hA
      simp only [Nat.zero_add] at z0 z1 z2 z3 z4 z5 z6 z7
      clear hW hBW hownW hkey hks hkye hrep ha hg hb63
      go_wp2_with (at_lookup; rw [← HW.out]; refine wpList_lookup_own_int _ rfl _ _ 112 rfl 9 3 .i64 Tryz.law9 Tryz.underlying112 Tryz.underlying3 (Tryz.zero3 _) w.heap.size k D rfl HownW.out _ _ rfl Hkey.out ?_)
      intro c hc _
      rw [Hat.out] at hc
      by_cases hin : ky ∈ (l.map (·.1)).take k
      · have Hno := Lib.hid (onceErr_no (dup_not Hks.out hin))
        have Hin := Lib.hid hin
        clear hin
        obtain rfl : c = 1 := by rw [inL_yes Hin.out] at hc; injection hc with hc; injection hc with _ hc; exact hc.symm
        clear hc
        go_wp2_with (at_mapUpdate; refine wpList_mapUpdate_own _ rfl _ _ _ 112 rfl 9 3 Tryz.law9 Tryz.underlying112 _ w.heap.size k _ rfl HownW.out Hb63.out _ _ _ rfl rfl Hkey.out _ [] (plainElem_int (a := 2) Tryz.underlying3 (by decide)) ?_)
        intro w1 hown1 hgrow1
        have hbox1 := HA.out.keep (hgrow1.block wr.heap.size Hlt.out (fun e => by injection e with e; have := Hown0.out.lt; omega))
        have hb1 : Below w.heap.size w w1 := Hbel'.out.grown hgrow1 Hbel'.out.size (fun j hj => by cases hj; exact Nat.le_refl _)
        have Hown1 := Lib.hid hown1
        have Hb1 := Lib.hid hb1
        obtain ⟨y0, y1, y2, y3, y4, y5, y6, y7⟩ := hbox1
        simp only [Nat.zero_add] at y0 y1 y2 y3 y4 y5 y6 y7
        clear hown1 hgrow1 hb1 z0 z1 z2 z3 z4 z5 z6 z7
        go_wp2_with (at_lookup; refine wpList_lookup_own_int _ rfl _ _ 112 rfl 9 3 .i64 Tryz.law9 Tryz.underlying112 Tryz.underlying3 (Tryz.zero3 _) w.heap.size (k + 1) _ rfl Hown1.out _ _ rfl Hkey.out ?_)
        intro c hc _
        rw [atKey_put_same Hmap.out (by simp [WideAt.IsKeyLit])] at hc
        obtain rfl : c = 2 := by injection hc with hc; injection hc with _ hc; exact hc.symm
        clear hc
        go_wp2_with fail
        refine (unless_no _ _).mono ?_
        rintro e w' ⟨rfl, rfl⟩
        exact ⟨rfl, by rw [Hno.out]; exact ⟨Ends.mkn (by decide), Hb1.out⟩⟩
      · have Hnd' := Lib.hid (nodup_snoc Hks.out Hnd.out hin)
        have Hin := Lib.hid hin
        clear hin
        obtain rfl : c = 0 := by rw [inL_no Hin.out] at hc; injection hc with hc; injection hc with _ hc; exact hc.symm
        clear hc
        go_wp2_with (at_mapUpdate; refine wpList_mapUpdate_own _ rfl _ _ _ 112 rfl 9 3 Tryz.law9 Tryz.underlying112 _ w.heap.size k _ rfl HownW.out Hb63.out _ _ _ rfl rfl Hkey.out _ [] (plainElem_int (a := 1) Tryz.underlying3 (by decide)) ?_)
        intro w1 hown1 hgrow1
        have hbox1 := HA.out.keep (hgrow1.block wr.heap.size Hlt.out (fun e => by injection e with e; have := Hown0.out.lt; omega))
        have hb1 : Below w.heap.size w w1 := Hbel'.out.grown hgrow1 Hbel'.out.size (fun j hj => by cases hj; exact Nat.le_refl _)
        have Hown1 := Lib.hid hown1
        have Hb1 := Lib.hid hb1
        obtain ⟨y0, y1, y2, y3, y4, y5, y6, y7⟩ := hbox1
        simp only [Nat.zero_add] at y0 y1 y2 y3 y4 y5 y6 y7
        clear hown1 hgrow1 hb1 z0 z1 z2 z3 z4 z5 z6 z7
        go_wp2_with (at_lookup; refine wpList_lookup_own_int _ rfl _ _ 112 rfl 9 3 .i64 Tryz.law9 Tryz.underlying112 Tryz.underlying3 (Tryz.zero3 _) w.heap.size (k + 1) _ rfl Hown1.out _ _ rfl Hkey.out ?_)
        intro c hc _
        rw [atKey_put_same Hmap.out (by simp [WideAt.IsKeyLit])] at hc
        obtain rfl : c = 1 := by injection hc with hc; injection hc with _ hc; exact hc.symm
        clear hc
        have Hnext := Lib.hid (Once.next Hks.out Hat.out Hmap.out Hown1.out)
        go_wp2_with fail
        refine (unless_yes _ _).mono ?_
        rintro e w' ⟨rfl, rfl⟩
        go_wp2
        go_roundw
        case rel => exact ⟨k + 1, by go_num, by omega, Hnd'.out, Hnext.out, Hb1.out⟩
        case measure => simp [intOf]; omega
    · have hnd := Hnd.out
      rw [List.take_of_length_le (by have := Hn.out; simp; omega)] at hnd
      have Hok := Lib.hid (onceErr_ok hnd)
      clear hnd
      go_wp2
      go_returns
      exact ⟨by rw [Hok.out]; exact Ends.mk0, Hbel.out⟩
end Go.Proofs.YtnnnnlcpmocnfaaGreatDoor

/- THE LAW ValueHeld's checks, as data, WALKED. -/
namespace Go.Proofs.YtnnnnlcpmocnfaaGreatDoor
open Go.RowKit
set_option linter.unusedVariables false
set_option linter.unusedSimpArgs false
attribute [local go_sem] run_store_float


mutual
/-- why a value is not right that has so many lists and maps around it -/
noncomputable def chk : V → Int → Int
  | .mk k s b n f l p, d =>
    if bareB (.mk k s b n f l p) = false then 5 else if ¬ s.size ≤ 4096 then 4 else if k = 1 ∧ utf s = false then 12 else if ¬ l.length ≤ 256 then 3 else if ¬ p.length ≤ 256 then 3
    else if (k = 5 ∨ k = 6) ∧ ¬ d < 8 then 11 else if chkL l (d + 1) = 0 then (if chkP p (d + 1) = 0 then onceErr p else chkP p (d + 1)) else chkL l (d + 1)
noncomputable def chkL : List V → Int → Int
  | [], _ => 0
  | x :: l, d => if chk x d = 0 then chkL l d else chk x d
noncomputable def chkP : List (ByteArray × V) → Int → Int
  | [], _ => 0
  | (key, x) :: l, d => if keyErr key = 0 then (if chk x d = 0 then chkP l d else chk x d) else keyErr key
end
/-- of pairs -/
noncomputable def pairsErr (l : List (ByteArray × V)) (d : Int) : Int := if ¬ l.length ≤ 256 then 3 else if chkP l d = 0 then onceErr l else chkP l d
/-- of one pair -/
noncomputable def pairErr (key : ByteArray) (x : V) (d : Int) : Int := if keyErr key = 0 then chk x d else keyErr key
theorem chkL_cut : ∀ {l : List V} {d : Int} {k : Nat} {x : V}, l[k]? = some x → (∀ j y, j < k → l[j]? = some y → chk y d = 0) → chk x d ≠ 0 → chkL l d = chk x d := by
  intro l
  induction l with
  | nil => intro d k x h; simp at h
  | cons y l ih =>
    intro d k x h hall hx
    cases k with
    | zero => simp at h; subst h; rw [chkL, if_neg hx]
    | succ k =>
      rw [chkL, if_pos (hall 0 y (by omega) rfl)]
      exact ih (by simpa using h) (fun j z hj hz => hall (j + 1) z (by omega) (by simpa using hz)) hx
theorem chkL_ok {l : List V} {d : Int} (h : ∀ (j : Nat) y, l[j]? = some y → chk y d = 0) : chkL l d = 0 := by
  induction l with
  | nil => rw [chkL]
  | cons y l ih => rw [chkL, if_pos (h 0 y rfl)]; exact ih fun j z hz => h (j + 1) z (by simpa using hz)
theorem chkP_cut : ∀ {l : List (ByteArray × V)} {d : Int} {k : Nat} {x : ByteArray × V}, l[k]? = some x → (∀ j y, j < k → l[j]? = some y → pairErr y.1 y.2 d = 0) → pairErr x.1 x.2 d ≠ 0 → chkP l d = pairErr x.1 x.2 d := by
  intro l
  induction l with
  | nil => intro d k x h; simp at h
  | cons y l ih =>
    intro d k x h hall hx
    obtain ⟨ky, v⟩ := y
    cases k with
    | zero =>
      simp at h; subst h
      unfold pairErr at hx ⊢
      dsimp only at hx ⊢
      rw [chkP]
      by_cases hk : keyErr ky = 0
      · rw [if_pos hk] at hx ⊢
        rw [if_neg hx, if_pos hk]
      · rw [if_neg hk, if_neg hk]
    | succ k =>
      have h0 := hall 0 (ky, v) (by omega) rfl
      unfold pairErr at h0
      dsimp only at h0
      by_cases hk : keyErr ky = 0
      · rw [if_pos hk] at h0
        rw [chkP, if_pos hk, if_pos h0]
        exact ih (by simpa using h) (fun j z hj hz => hall (j + 1) z (by omega) (by simpa using hz)) hx
      · rw [if_neg hk] at h0; exact absurd h0 hk
theorem chkP_ok {l : List (ByteArray × V)} {d : Int} (h : ∀ (j : Nat) y, l[j]? = some y → pairErr y.1 y.2 d = 0) : chkP l d = 0 := by
  induction l with
  | nil => rw [chkP]
  | cons y l ih =>
    obtain ⟨ky, v⟩ := y
    have h0 := h 0 (ky, v) rfl
    unfold pairErr at h0
    dsimp only at h0
    by_cases hk : keyErr ky = 0
    · rw [if_pos hk] at h0
      rw [chkP, if_pos hk, if_pos h0]
      exact ih fun j z hz => h (j + 1) z (by simpa using hz)
    · rw [if_neg hk] at h0; exact absurd h0 hk

def CheckC (x : V) : Prop := ∀ (w : World) (q1 q2 : Value) (d : Int), Tabs w → Rep Any w q1 q2 x → 0 ≤ d → d ≤ 8 → Calls Tryz.prog 18 #[.agg (cv x q1 q2), .int .i64 d] w (Chk (chk x d) w)
def CheckPC (l : List (ByteArray × V)) : Prop := ∀ (w : World) (q : Value) (d : Int), Tabs w → RepP Any w q l → l.length * 112 ≤ 140737488353000 → 0 ≤ d → d ≤ 9 → (l ≠ [] → d ≤ 8) → Calls Tryz.prog 48 #[q, .int .i64 d] w (Chk (pairsErr l d) w)
end Go.Proofs.YtnnnnlcpmocnfaaGreatDoor
