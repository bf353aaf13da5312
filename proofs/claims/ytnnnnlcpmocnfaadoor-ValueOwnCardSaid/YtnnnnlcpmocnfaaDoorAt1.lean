/- THE WALKS OVER Get, Put, Drop, the program's. -/
import Derived.Test.YtnnnnlcpmocnfaaDoorCp3
import Derived.Deep.RegionHeld3
import Derived.Deep.RegionLaw
import Derived.StillTailTactics
import Derived.WalkLawsBesides
import Derived.Outline
namespace Go.Proofs.YtnnnnlcpmocnfaaDoor
open Go.RowKit
set_option linter.unusedVariables false
set_option linter.unusedSimpArgs false
attribute [local go_sem] run_store_float


/-- the first value of a key; what is put; what is dropped -/
def zeroV : V := .mk 0 ⟨#[]⟩ false 0 0 [] []
def getOr : List (ByteArray × V) → ByteArray → V × Bool
  | [], _ => (zeroV, false)
  | a :: l, key => if a.1 = key then (a.2, true) else getOr l key
def putIn : List (ByteArray × V) → ByteArray → V → List (ByteArray × V)
  | [], key, v => [(key, v)]
  | a :: l, key, v => if a.1 = key then (a.1, v) :: l else a :: putIn l key v
def dropOf (l : List (ByteArray × V)) (key : ByteArray) : List (ByteArray × V) := l.filter fun e => !decide (e.1 = key)

theorem getOr_at {l : List (ByteArray × V)} {key : ByteArray} : ∀ {k : Nat} {a : ByteArray × V}, l[k]? = some a → a.1 = key → (∀ j b, j < k → l[j]? = some b → b.1 ≠ key) → getOr l key = (a.2, true) := by
  induction l with
  | nil => intro k a h; simp at h
  | cons x l ih =>
    intro k a h he hno
    cases k with
    | zero => simp at h; subst h; rw [getOr, if_pos he]
    | succ k =>
      rw [getOr, if_neg (hno 0 x (by omega) rfl)]
      exact ih (k := k) (by simpa using h) he fun j b hj hb => hno (j + 1) b (by omega) (by simpa using hb)
theorem getOr_no {l : List (ByteArray × V)} {key : ByteArray} (h : ∀ (j : Nat) b, l[j]? = some b → b.1 ≠ key) : getOr l key = (zeroV, false) := by
  induction l with
  | nil => rfl
  | cons x l ih => rw [getOr, if_neg (h 0 x rfl)]; exact ih fun j b hb => h (j + 1) b (by simpa using hb)
theorem putIn_at {key : ByteArray} {v : V} : ∀ {l : List (ByteArray × V)} {k : Nat} {a : ByteArray × V}, l[k]? = some a → a.1 = key → (∀ j b, j < k → l[j]? = some b → b.1 ≠ key) → putIn l key v = l.set k (a.1, v) := by
  intro l
  induction l with
  | nil => intro k a h; simp at h
  | cons x l ih =>
    intro k a h he hno
    cases k with
    | zero => simp at h; subst h; rw [putIn, if_pos he]; rfl
    | succ k =>
      rw [putIn, if_neg (hno 0 x (by omega) rfl), List.set_cons_succ]
      rw [ih (k := k) (by simpa using h) he fun j b hj hb => hno (j + 1) b (by omega) (by simpa using hb)]
theorem putIn_no {key : ByteArray} {v : V} {l : List (ByteArray × V)} (h : ∀ (j : Nat) b, l[j]? = some b → b.1 ≠ key) : putIn l key v = l ++ [(key, v)] := by
  induction l with
  | nil => rfl
  | cons x l ih => rw [putIn, if_neg (h 0 x rfl), ih fun j b hb => h (j + 1) b (by simpa using hb)]; rfl
theorem dropOf_snoc (l : List (ByteArray × V)) (key : ByteArray) (a : ByteArray × V) : dropOf (l ++ [a]) key = dropOf l key ++ (if a.1 = key then [] else [a]) := by
  unfold dropOf
  rw [List.filter_append]
  congr 1
  by_cases h : a.1 = key <;> simp [h]
theorem dropOf_len (l : List (ByteArray × V)) (key : ByteArray) : (dropOf l key).length ≤ l.length := List.length_filter_le _ _

/-- what Get answers -/
def Got (l : List (ByteArray × V)) (key : ByteArray) (w : World) (e : Ending) (w' : World) : Prop :=
  ∃ r1 r2, e = .returned (.tuple #[.agg (cv (getOr l key).1 r1 r2), .bool (getOr l key).2]) ∧ Rep (New w.heap.size w') w' r1 r2 (getOr l key).1 ∧ Below w.heap.size w w'
def GetC (F : Nat) : Prop := ∀ (w : World) (q : Value) (l : List (ByteArray × V)) (key : ByteArray), RepP Any w q l → key.size ≤ 140737488353000 → Calls Tryd.prog F #[q, .string key] w (Got l key w)
def PutC (F : Nat) : Prop := ∀ (w : World) (q : Value) (l : List (ByteArray × V)) (key : ByteArray) (x : V) (q1 q2 : Value), RepP Any w q l → l.length * 112 ≤ 140737488353000 → key.size ≤ 140737488353000 → Rep Any w q1 q2 x →
  Calls Tryd.prog F #[q, .string key, .agg (cv x q1 q2)] w (CopiedP (putIn l key x) w)
def DropC (F : Nat) : Prop := ∀ (w : World) (q : Value) (l : List (ByteArray × V)) (key : ByteArray), RepP Any w q l → l.length * 112 ≤ 140737488353000 → key.size ≤ 140737488353000 → Calls Tryd.prog F #[q, .string key] w (CopiedP (dropOf l key) w)
theorem zero_fit : FitV zeroV := ⟨by decide, by decide, by decide, by decide, by decide, by decide, by decide, by decide⟩
theorem zero_rep (S : Nat → Prop) (w : World) : Rep S w (.slice none 0 0) (.slice none 0 0) zeroV := Rep.of zero_fit (RepL.nil S w) (RepP.nil S w)
theorem str_is {a b : ByteArray} (h : a = b) : (a.toList == b.toList) = true := by rw [h]; simp
theorem str_not {a b : ByteArray} (h : a ≠ b) : (a.toList == b.toList) = false := by
  apply beq_eq_false_iff_ne.2
  intro e
  rw [Go.ByteArray.toList_eq, Go.ByteArray.toList_eq] at e
  exact h (ByteArray.ext (Array.toList_inj.1 e))

/-- where Get stands -/
structure GInv25 (l : List (ByteArray × V)) (key : ByteArray) (w : World) (k : Nat) (wr : World) : Prop where
  res : wr.heap[w.heap.size]? = some (.cells #[.int .u8 0, .string ⟨#[]⟩, .bool false, .int .i64 0, .float .f64 0, .slice none 0 0, .slice none 0 0] 27 (0, 0))
  no : ∀ j b, j < k → l[j]? = some b → b.1 ≠ key
  bel : Below w.heap.size w wr
set_option maxRecDepth 100000 in
set_option maxHeartbeats 8000000 in
theorem get_any : GetC 25 := by
  intro w q l key hq hkey
  obtain ⟨ad, cap, rfl, hl⟩ := hq.form
  obtain ⟨n, hn⟩ : ∃ n, n = l.length := ⟨_, rfl⟩
  rw [← hn] at hq hl ⊢
  have Hn := Lib.hid hn
  have Hq := Lib.hid hq
  clear hn hq
  go_enter Tryd.func25, Tryd.ntmps25
  go_wp2
  go_loopw [10] (fun i wr => ∃ (k : Nat), i = .int .i64 (k : Int) ∧ k ≤ n ∧ Go.RowKit.Hid (GInv25 l key w k wr)) (fun i _ => n - (intOf i).toNat)
  case atStart => exact ⟨0, rfl, by omega, ⟨blk_new w _, fun j b hj => absurd hj (by omega), (Below.refl _ _).alloc (Nat.le_refl _) _⟩⟩
  case round =>
    obtain ⟨k, rfl, hk, hinv⟩ := hrel
    have Hinv := Lib.hid hinv.out
    clear hinv
    by_cases hlt : k < n
    · obtain ⟨a, ha⟩ := get_at' (l := l) (k := k) (by rw [← Hn.out]; exact hlt)
      obtain ⟨g, o, c, d, rfl, hg, ⟨c0, c1, c2, c3, c4, c5, c6, c7⟩, hky, hrep⟩ := (Hq.out.under Hinv.out.bel).at ha
      obtain ⟨adc, capc, rfl, _⟩ := hrep.parts.2.1.form
      obtain ⟨add, capd, rfl, _⟩ := hrep.parts.2.2.form
      have hk0 : (0 : Int) ≤ (k : Int) := by omega
      have hkn : (k : Int) < (n : Int) := by omega
      obtain ⟨W, hW⟩ : ∃ W, W = wr.alloc (.cells (pv a.1 a.2 (.slice adc a.2.l.length capc) (.slice add a.2.p.length capd)) 51) := ⟨_, rfl⟩
      have hBW : Below wr.heap.size wr W := by rw [hW]; exact (Below.refl _ _).alloc (Nat.le_refl _) _
      have Hrep := Lib.hid (hrep.under hBW)
      have Hres := Lib.hid ((hBW.block _ (lt_of_block Hinv.out.res)).trans Hinv.out.res)
      have Hbel := Lib.hid (Hinv.out.bel.trans (hBW.mono Hinv.out.bel.size))
      have Hlt := Lib.hid (show w.heap.size < W.heap.size from Nat.lt_of_lt_of_le (lt_of_block Hinv.out.res) hBW.size)
      have HW := Lib.hid hW
      have Ha := Lib.hid ha
      clear hW ha hrep hg hBW
      by_cases hkk : a.1 = key
      · have hs := str_is hkk
        have hget := getOr_at Ha.out hkk Hinv.out.no
        have Hget := Lib.hid hget
        clear hget hkk
        go_wp2_with fail
        rw [← HW.out]
        refine (copied_any a.2 _ _ _ Hrep.out).mono ?_
        rintro e w1 ⟨r1, r2, rfl, hr1, hb1⟩
        obtain ⟨u1, v1, rfl, _⟩ := hr1.parts.2.1.form
        obtain ⟨u2, v2, rfl, _⟩ := hr1.parts.2.2.form
        have hres1 := (hb1.block _ Hlt.out).trans Hres.out
        obtain ⟨⟨h0, h1, h2, h3, h4, h5, h6⟩, g0, g1, g2, g3, g4, g5, g6⟩ := zero_box hres1
        have Hr1 := Lib.hid hr1
        have Hb1 := Lib.hid hb1
        clear hr1 hb1 hres1
        go_wp2
        refine bodyPost_ret (v := .tuple #[.agg (cv a.2 (.slice u1 a.2.l.length v1) (.slice u2 a.2.p.length v2)), .bool true]) (by simp [results, Tryd.results25, go_sem, h0, h1, h2, h3, h4, h5, h6]) rfl ?_
        unfold Got
        rw [Hget.out]
        exact ⟨_, _, rfl, Hr1.out.keep ⟨by simp [World.setCell], fun g hg _ => (far_set (B := w.heap.size + 1) (far_set (B := w.heap.size + 1) (far_set (B := w.heap.size + 1) (far_set (B := w.heap.size + 1) (far_set (B := w.heap.size + 1) (far_set (B := w.heap.size + 1) (far_set (B := w.heap.size + 1) (fun _ _ => rfl) (by simp)) (by simp)) (by simp)) (by simp)) (by simp)) (by simp)) (by simp)) g (by have := Hlt.out; have hg' : W.heap.size ≤ g := hg.1; omega)⟩ (fun g hg _ => ⟨by have := Hlt.out; have hg' : W.heap.size ≤ g := hg.1; omega, hg.2.keep ((far_set (B := w.heap.size + 1) (far_set (B := w.heap.size + 1) (far_set (B := w.heap.size + 1) (far_set (B := w.heap.size + 1) (far_set (B := w.heap.size + 1) (far_set (B := w.heap.size + 1) (far_set (B := w.heap.size + 1) (fun _ _ => rfl) (by simp)) (by simp)) (by simp)) (by simp)) (by simp)) (by simp)) (by simp)) g (by have := Hlt.out; have hg' : W.heap.size ≤ g := hg.1; omega))⟩), ((((((((Hbel.out.trans (Hb1.out.mono Hbel.out.size)).setCell (Nat.le_refl _) _).setCell (Nat.le_refl _) _).setCell (Nat.le_refl _) _).setCell (Nat.le_refl _) _).setCell (Nat.le_refl _) _).setCell (Nat.le_refl _) _).setCell (Nat.le_refl _) _)⟩
      · have hs := str_not hkk
        have hno : ∀ j b, j < k + 1 → l[j]? = some b → b.1 ≠ key := fun j b hj hb => by
          by_cases e : j = k
          · subst e; rw [Ha.out] at hb; exact Option.some.inj hb ▸ hkk
          · exact Hinv.out.no j b (by omega) hb
        have Hno := Lib.hid hno
        clear hno hkk
        go_wp2
        rw [← HW.out]
        go_roundw
        case rel => exact ⟨k + 1, by go_num, by omega, ⟨Hres.out, Hno.out, Hbel.out⟩⟩
        case measure => simp [intOf]; omega
    · have hget : getOr l key = (zeroV, false) := getOr_no fun j b hb => Hinv.out.no j b (by have := lt_of_get hb; have := Hn.out; omega) hb
      have Hget := Lib.hid hget
      obtain ⟨⟨h0, h1, h2, h3, h4, h5, h6⟩, g0, g1, g2, g3, g4, g5, g6⟩ := zero_box Hinv.out.res
      clear hget
      go_wp2
      refine bodyPost_ret (v := .tuple #[.agg (cv zeroV (.slice none 0 0) (.slice none 0 0)), .bool false]) (by simp [results, Tryd.results25, go_sem, h0, h1, h2, h3, h4, h5, h6, zeroV, V.k, V.s, V.b, V.n, V.f]) rfl ?_
      unfold Got
      rw [Hget.out]
      exact ⟨_, _, rfl, zero_rep _ _, (((((((Hinv.out.bel.setCell (Nat.le_refl _) _).setCell (Nat.le_refl _) _).setCell (Nat.le_refl _) _).setCell (Nat.le_refl _) _).setCell (Nat.le_refl _) _).setCell (Nat.le_refl _) _).setCell (Nat.le_refl _) _)⟩
end Go.Proofs.YtnnnnlcpmocnfaaDoor
