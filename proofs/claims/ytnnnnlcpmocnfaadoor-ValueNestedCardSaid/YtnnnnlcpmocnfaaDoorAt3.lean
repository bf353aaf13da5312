/- THE WALKS OVER Get, Put, Drop, the program's. -/
import Derived.Test.YtnnnnlcpmocnfaaDoorCp3
import Derived.Deep.RegionHeld3
import Derived.Deep.RegionLaw
import Derived.StillTailTactics
import Derived.WalkLawsBesides
import Derived.Outline
namespace Go.Proofs.YtnnnnlcpmocnfaaDoor
open Go.RowKit
set_option linter.unusedVariables false
set_option linter.unusedSimpArgs false
attribute [local go_sem] run_store_float


/-- the first value of a key; what is put; what is dropped -/
def zeroV : V := .mk 0 ⟨#[]⟩ false 0 0 [] []
def getOr : List (ByteArray × V) → ByteArray → V × Bool
  | [], _ => (zeroV, false)
  | a :: l, key => if a.1 = key then (a.2, true) else getOr l key
def putIn : List (ByteArray × V) → ByteArray → V → List (ByteArray × V)
  | [], key, v => [(key, v)]
  | a :: l, key, v => if a.1 = key then (a.1, v) :: l else a :: putIn l key v
def dropOf (l : List (ByteArray × V)) (key : ByteArray) : List (ByteArray × V) := l.filter fun e => !decide (e.1 = key)

theorem getOr_at {l : List (ByteArray × V)} {key : ByteArray} : ∀ {k : Nat} {a : ByteArray × V}, l[k]? = some a → a.1 = key → (∀ j b, j < k → l[j]? = some b → b.1 ≠ key) → getOr l key = (a.2, true) := by
  induction l with
  | nil => intro k a h; simp at h
  | cons x l ih =>
    intro k a h he hno
    cases k with
    | zero => simp at h; subst h; rw [getOr, if_pos he]
    | succ k =>
      rw [getOr, if_neg (hno 0 x (by omega) rfl)]
      exact ih (k := k) (by simpa using h) he fun j b hj hb => hno (j + 1) b (by omega) (by simpa using hb)
theorem getOr_no {l : List (ByteArray × V)} {key : ByteArray} (h : ∀ (j : Nat) b, l[j]? = some b → b.1 ≠ key) : getOr l key = (zeroV, false) := by
  induction l with
  | nil => rfl
  | cons x l ih => rw [getOr, if_neg (h 0 x rfl)]; exact ih fun j b hb => h (j + 1) b (by simpa using hb)
theorem putIn_at {key : ByteArray} {v : V} : ∀ {l : List (ByteArray × V)} {k : Nat} {a : ByteArray × V}, l[k]? = some a → a.1 = key → (∀ j b, j < k → l[j]? = some b → b.1 ≠ key) → putIn l key v = l.set k (a.1, v) := by
  intro l
  induction l with
  | nil => intro k a h; simp at h
  | cons x l ih =>
    intro k a h he hno
    cases k with
    | zero => simp at h; subst h; rw [putIn, if_pos he]; rfl
    | succ k =>
      rw [putIn, if_neg (hno 0 x (by omega) rfl), List.set_cons_succ]
      rw [ih (k := k) (by simpa using h) he fun j b hj hb => hno (j + 1) b (by omega) (by simpa using hb)]
theorem putIn_no {key : ByteArray} {v : V} {l : List (ByteArray × V)} (h : ∀ (j : Nat) b, l[j]? = some b → b.1 ≠ key) : putIn l key v = l ++ [(key, v)] := by
  induction l with
  | nil => rfl
  | cons x l ih => rw [putIn, if_neg (h 0 x rfl), ih fun j b hb => h (j + 1) b (by simpa using hb)]; rfl
theorem dropOf_snoc (l : List (ByteArray × V)) (key : ByteArray) (a : ByteArray × V) : dropOf (l ++ [a]) key = dropOf l key ++ (if a.1 = key then [] else [a]) := by
  unfold dropOf
  rw [List.filter_append]
  congr 1
  by_cases h : a.1 = key <;> simp [h]
theorem dropOf_len (l : List (ByteArray × V)) (key : ByteArray) : (dropOf l key).length ≤ l.length := List.length_filter_le _ _

/-- what Get answers -/
def Got (l : List (ByteArray × V)) (key : ByteArray) (w : World) (e : Ending) (w' : World) : Prop :=
  ∃ r1 r2, e = .returned (.tuple #[.agg (cv (getOr l key).1 r1 r2), .bool (getOr l key).2]) ∧ Rep (New w.heap.size w') w' r1 r2 (getOr l key).1 ∧ Below w.heap.size w w'
def GetC (F : Nat) : Prop := ∀ (w : World) (q : Value) (l : List (ByteArray × V)) (key : ByteArray), RepP Any w q l → key.size ≤ 140737488353000 → Calls Tryd.prog F #[q, .string key] w (Got l key w)
def PutC (F : Nat) : Prop := ∀ (w : World) (q : Value) (l : List (ByteArray × V)) (key : ByteArray) (x : V) (q1 q2 : Value), RepP Any w q l → l.length * 112 ≤ 140737488353000 → key.size ≤ 140737488353000 → Rep Any w q1 q2 x →
  Calls Tryd.prog F #[q, .string key, .agg (cv x q1 q2)] w (CopiedP (putIn l key x) w)
def DropC (F : Nat) : Prop := ∀ (w : World) (q : Value) (l : List (ByteArray × V)) (key : ByteArray), RepP Any w q l → l.length * 112 ≤ 140737488353000 → key.size ≤ 140737488353000 → Calls Tryd.prog F #[q, .string key] w (CopiedP (dropOf l key) w)
theorem zero_fit : FitV zeroV := ⟨by decide, by decide, by decide, by decide, by decide, by decide, by decide, by decide⟩
theorem zero_rep (S : Nat → Prop) (w : World) : Rep S w (.slice none 0 0) (.slice none 0 0) zeroV := Rep.of zero_fit (RepL.nil S w) (RepP.nil S w)
theorem str_is {a b : ByteArray} (h : a = b) : (a.toList == b.toList) = true := by rw [h]; simp
theorem str_not {a b : ByteArray} (h : a ≠ b) : (a.toList == b.toList) = false := by
  apply beq_eq_false_iff_ne.2
  intro e
  rw [Go.ByteArray.toList_eq, Go.ByteArray.toList_eq] at e
  exact h (ByteArray.ext (Array.toList_inj.1 e))

/-- where Get stands -/
structure GInv25 (l : List (ByteArray × V)) (key : ByteArray) (w : World) (k : Nat) (wr : World) : Prop where
  res : wr.heap[w.heap.size]? = some (.cells #[.int .u8 0, .string ⟨#[]⟩, .bool false, .int .i64 0, .float .f64 0, .slice none 0 0, .slice none 0 0] 27 (0, 0))
  no : ∀ j b, j < k → l[j]? = some b → b.1 ≠ key
  bel : Below w.heap.size w wr
set_option maxRecDepth 100000 in
set_option maxHeartbeats 8000000 in
theorem get_any : GetC 25 := by
  intro w q l key hq hkey
  obtain ⟨ad, cap, rfl, hl⟩ := hq.form
  obtain ⟨n, hn⟩ : ∃ n, n = l.length := ⟨_, rfl⟩
  rw [← hn] at hq hl ⊢
  have Hn := Lib.hid hn
  have Hq := Lib.hid hq
  clear hn hq
  go_enter Tryd.func25, Tryd.ntmps25
  go_wp2
  go_loopw [10] (fun i wr => ∃ (k : Nat), i = .int .i64 (k : Int) ∧ k ≤ n ∧ Go.RowKit.Hid (GInv25 l key w k wr)) (fun i _ => n - (intOf i).toNat)
  case atStart => exact ⟨0, rfl, by omega, ⟨blk_new w _, fun j b hj => absurd hj (by omega), (Below.refl _ _).alloc (Nat.le_refl _) _⟩⟩
  case round =>
    obtain ⟨k, rfl, hk, hinv⟩ := hrel
    have Hinv := Lib.hid hinv.out
    clear hinv
    by_cases hlt : k < n
    · obtain ⟨a, ha⟩ := get_at' (l := l) (k := k) (by rw [← Hn.out]; exact hlt)
      obtain ⟨g, o, c, d, rfl, hg, ⟨c0, c1, c2, c3, c4, c5, c6, c7⟩, hky, hrep⟩ := (Hq.out.under Hinv.out.bel).at ha
      obtain ⟨adc, capc, rfl, _⟩ := hrep.parts.2.1.form
      obtain ⟨add, capd, rfl, _⟩ := hrep.parts.2.2.form
      have hk0 : (0 : Int) ≤ (k : Int) := by omega
      have hkn : (k : Int) < (n : Int) := by omega
      obtain ⟨W, hW⟩ : ∃ W, W = wr.alloc (.cells (pv a.1 a.2 (.slice adc a.2.l.length capc) (.slice add a.2.p.length capd)) 51) := ⟨_, rfl⟩
      have hBW : Below wr.heap.size wr W := by rw [hW]; exact (Below.refl _ _).alloc (Nat.le_refl _) _
      have Hrep := Lib.hid (hrep.under hBW)
      have Hres := Lib.hid ((hBW.block _ (lt_of_block Hinv.out.res)).trans Hinv.out.res)
      have Hbel := Lib.hid (Hinv.out.bel.trans (hBW.mono Hinv.out.bel.size))
      have Hlt := Lib.hid (show w.heap.size < W.heap.size from Nat.lt_of_lt_of_le (lt_of_block Hinv.out.res) hBW.size)
      have HW := Lib.hid hW
      have Ha := Lib.hid ha
      clear hW ha hrep hg hBW
      by_cases hkk : a.1 = key
      · have hs := str_is hkk
        have hget := getOr_at Ha.out hkk Hinv.out.no
        have Hget := Lib.hid hget
        clear hget hkk
        go_wp2_with fail
        rw [← HW.out]
        refine (copied_any a.2 _ _ _ Hrep.out).mono ?_
        rintro e w1 ⟨r1, r2, rfl, hr1, hb1⟩
        obtain ⟨u1, v1, rfl, _⟩ := hr1.parts.2.1.form
        obtain ⟨u2, v2, rfl, _⟩ := hr1.parts.2.2.form
        have hres1 := (hb1.block _ Hlt.out).trans Hres.out
        obtain ⟨⟨h0, h1, h2, h3, h4, h5, h6⟩, g0, g1, g2, g3, g4, g5, g6⟩ := zero_box hres1
        have Hr1 := Lib.hid hr1
        have Hb1 := Lib.hid hb1
        clear hr1 hb1 hres1
        go_wp2
        refine bodyPost_ret (v := .tuple #[.agg (cv a.2 (.slice u1 a.2.l.length v1) (.slice u2 a.2.p.length v2)), .bool true]) (by simp [results, Tryd.results25, go_sem, h0, h1, h2, h3, h4, h5, h6]) rfl ?_
        unfold Got
        rw [Hget.out]
        exact ⟨_, _, rfl, Hr1.out.keep ⟨by simp [World.setCell], fun g hg _ => (far_set (B := w.heap.size + 1) (far_set (B := w.heap.size + 1) (far_set (B := w.heap.size + 1) (far_set (B := w.heap.size + 1) (far_set (B := w.heap.size + 1) (far_set (B := w.heap.size + 1) (far_set (B := w.heap.size + 1) (fun _ _ => rfl) (by simp)) (by simp)) (by simp)) (by simp)) (by simp)) (by simp)) (by simp)) g (by have := Hlt.out; have hg' : W.heap.size ≤ g := hg.1; omega)⟩ (fun g hg _ => ⟨by have := Hlt.out; have hg' : W.heap.size ≤ g := hg.1; omega, hg.2.keep ((far_set (B := w.heap.size + 1) (far_set (B := w.heap.size + 1) (far_set (B := w.heap.size + 1) (far_set (B := w.heap.size + 1) (far_set (B := w.heap.size + 1) (far_set (B := w.heap.size + 1) (far_set (B := w.heap.size + 1) (fun _ _ => rfl) (by simp)) (by simp)) (by simp)) (by simp)) (by simp)) (by simp)) (by simp)) g (by have := Hlt.out; have hg' : W.heap.size ≤ g := hg.1; omega))⟩), ((((((((Hbel.out.trans (Hb1.out.mono Hbel.out.size)).setCell (Nat.le_refl _) _).setCell (Nat.le_refl _) _).setCell (Nat.le_refl _) _).setCell (Nat.le_refl _) _).setCell (Nat.le_refl _) _).setCell (Nat.le_refl _) _).setCell (Nat.le_refl _) _)⟩
      · have hs := str_not hkk
        have hno : ∀ j b, j < k + 1 → l[j]? = some b → b.1 ≠ key := fun j b hj hb => by
          by_cases e : j = k
          · subst e; rw [Ha.out] at hb; exact Option.some.inj hb ▸ hkk
          · exact Hinv.out.no j b (by omega) hb
        have Hno := Lib.hid hno
        clear hno hkk
        go_wp2
        rw [← HW.out]
        go_roundw
        case rel => exact ⟨k + 1, by go_num, by omega, ⟨Hres.out, Hno.out, Hbel.out⟩⟩
        case measure => simp [intOf]; omega
    · have hget : getOr l key = (zeroV, false) := getOr_no fun j b hb => Hinv.out.no j b (by have := lt_of_get hb; have := Hn.out; omega) hb
      have Hget := Lib.hid hget
      obtain ⟨⟨h0, h1, h2, h3, h4, h5, h6⟩, g0, g1, g2, g3, g4, g5, g6⟩ := zero_box Hinv.out.res
      clear hget
      go_wp2
      refine bodyPost_ret (v := .tuple #[.agg (cv zeroV (.slice none 0 0) (.slice none 0 0)), .bool false]) (by simp [results, Tryd.results25, go_sem, h0, h1, h2, h3, h4, h5, h6, zeroV, V.k, V.s, V.b, V.n, V.f]) rfl ?_
      unfold Got
      rw [Hget.out]
      exact ⟨_, _, rfl, zero_rep _ _, (((((((Hinv.out.bel.setCell (Nat.le_refl _) _).setCell (Nat.le_refl _) _).setCell (Nat.le_refl _) _).setCell (Nat.le_refl _) _).setCell (Nat.le_refl _) _).setCell (Nat.le_refl _) _).setCell (Nat.le_refl _) _)⟩
end Go.Proofs.YtnnnnlcpmocnfaaDoor

/- THE WALKS OVER Get, Put, Drop, the program's. -/
namespace Go.Proofs.YtnnnnlcpmocnfaaDoor
open Go.RowKit
set_option linter.unusedVariables false
set_option linter.unusedSimpArgs false
attribute [local go_sem] run_store_float


theorem fm_set7 (e : ByteArray × V × Value × Value) (y : V) (r1 r2 : Value) : ∀ (es : List (ByteArray × V × Value × Value)) (k : Nat), es[k]? = some e →
    (es.set k (e.1, y, r1, r2)).flatMap pc = ((((((((es.flatMap pc).set (k * 8 + 1) (.int .u8 y.k)).set (k * 8 + 2) (.string y.s)).set (k * 8 + 3) (.bool y.b)).set (k * 8 + 4) (.int .i64 y.n)).set (k * 8 + 5) (.float .f64 y.f)).set (k * 8 + 6) r1).set (k * 8 + 7) r2) := by
  intro es
  induction es with
  | nil => intro k h; simp at h
  | cons x es ih =>
    intro k h
    cases k with
    | zero =>
      simp at h; subst h
      simp [pc, List.set]
    | succ k =>
      have ih' := ih k (by simpa using h)
      rw [List.set_cons_succ, List.flatMap_cons, ih', List.flatMap_cons]
      have e : ∀ j, (k + 1) * 8 + j = (k * 8 + j) + 8 := fun j => by omega
      simp only [e]
      simp only [pc, List.cons_append, List.nil_append, List.set_cons_succ]
/-- a value stored into a row's pair -/
theorem PRow.store {w : World} {base g cap : Nat} {es : List (ByteArray × V × Value × Value)} {n : Nat} (hn : n = es.length) (h : PRow w base (.slice (some ⟨g, 0, none⟩) n cap) es) {k : Nat} {e : ByteArray × V × Value × Value} (he : es[k]? = some e) {y : V} {r1 r2 : Value} (hy : Rep (Far w base (some g)) w r1 r2 y) :
    PRow (((((((w.setCell ⟨g, k * 8 + 1, none⟩ (.int .u8 y.k)).setCell ⟨g, k * 8 + 2, none⟩ (.string y.s)).setCell ⟨g, k * 8 + 3, none⟩ (.bool y.b)).setCell ⟨g, k * 8 + 4, none⟩ (.int .i64 y.n)).setCell ⟨g, k * 8 + 5, none⟩ (.float .f64 y.f)).setCell ⟨g, k * 8 + 6, none⟩ r1).setCell ⟨g, k * 8 + 7, none⟩ r2) base (.slice (some ⟨g, 0, none⟩) n cap) (es.set k (e.1, y, r1, r2)) := by
  subst hn
  have s1 := World.ownsRow.stored h.row (k * 8 + 1) (.int .u8 y.k)
  have s2 := World.ownsRow.stored s1.1 (k * 8 + 2) (.string y.s)
  have s3 := World.ownsRow.stored s2.1 (k * 8 + 3) (.bool y.b)
  have s4 := World.ownsRow.stored s3.1 (k * 8 + 4) (.int .i64 y.n)
  have s5 := World.ownsRow.stored s4.1 (k * 8 + 5) (.float .f64 y.f)
  have s6 := World.ownsRow.stored s5.1 (k * 8 + 6) r1
  have s7 := World.ownsRow.stored s6.1 (k * 8 + 7) r2
  have hk : ∀ j, Far w base (some g) j → j < w.heap.size → (((((((w.setCell ⟨g, k * 8 + 1, none⟩ (.int .u8 y.k)).setCell ⟨g, k * 8 + 2, none⟩ (.string y.s)).setCell ⟨g, k * 8 + 3, none⟩ (.bool y.b)).setCell ⟨g, k * 8 + 4, none⟩ (.int .i64 y.n)).setCell ⟨g, k * 8 + 5, none⟩ (.float .f64 y.f)).setCell ⟨g, k * 8 + 6, none⟩ r1).setCell ⟨g, k * 8 + 7, none⟩ r2).heap[j]? = w.heap[j]? := fun j hj hl => by
    have hne : j ≠ g := fun e => hj.2.1 (by rw [e])
    exact (Below.heap_setCell _ _ _ _ hne).trans ((Below.heap_setCell _ _ _ _ hne).trans ((Below.heap_setCell _ _ _ _ hne).trans ((Below.heap_setCell _ _ _ _ hne).trans ((Below.heap_setCell _ _ _ _ hne).trans ((Below.heap_setCell _ _ _ _ hne).trans (Below.heap_setCell _ _ _ _ hne))))))
  refine ⟨?_, ?_, ?_⟩
  · rw [List.length_set, fm_set7 e y r1 r2 es k he]
    exact s7.1
  · intro e' he'
    rcases List.mem_or_eq_of_mem_set he' with h1 | h1
    · exact h.key e' h1
    · rw [h1]; exact h.key e (List.mem_of_getElem? he)
  · intro e' he'
    rcases List.mem_or_eq_of_mem_set he' with h1 | h1
    · exact (h.rep e' h1).keep ⟨by simp [World.setCell], hk⟩ fun j h hl => ⟨h.1, h.2.1, h.2.2.keep (hk j h hl)⟩
    · rw [h1]; exact hy.keep ⟨by simp [World.setCell], hk⟩ fun j h hl => ⟨h.1, h.2.1, h.2.2.keep (hk j h hl)⟩
theorem kv_set (es : List (ByteArray × V × Value × Value)) (k : Nat) (e : ByteArray × V × Value × Value) : (es.set k e).map kv = (es.map kv).set k (kv e) := by rw [List.map_set]
theorem PRow.own {w : World} {base : Nat} {v : Value} {es : List (ByteArray × V × Value × Value)} (h : PRow w base v es) (hn : es ≠ []) : ∃ g cap, v = .slice (some ⟨g, 0, none⟩) es.length cap ∧ base ≤ g ∧ g < w.heap.size := by
  rcases h.row.2 with ⟨hv, h0⟩ | ⟨g, cap, cur, hv, hb, hg, _⟩
  · exact absurd (List.eq_nil_of_length_eq_zero h0) hn
  · exact ⟨g, cap, hv, hb, lt_of_block hg⟩

set_option maxRecDepth 100000 in
set_option maxHeartbeats 8000000 in
theorem put_any : PutC 27 := by
  intro w q l key x q1 q2 hq h112 hkey hx
  obtain ⟨adc, capc, rfl, _⟩ := hx.parts.2.1.form
  obtain ⟨add, capd, rfl, _⟩ := hx.parts.2.2.form
  obtain ⟨ad, cap, rfl, hl⟩ := hq.form
  obtain ⟨W, hW⟩ : ∃ W, W = w.alloc (.cells (cv x (.slice adc x.l.length capc) (.slice add x.p.length capd)) 27) := ⟨_, rfl⟩
  have hb0 : Below w.heap.size w W := by rw [hW]; exact (Below.refl _ _).alloc (Nat.le_refl _) _
  have hbox : W.heap[w.heap.size]? = some (.cells (cv x (.slice adc x.l.length capc) (.slice add x.p.length capd)) 27 (0, 0)) := by rw [hW]; exact blk_new w _
  have Hcall := Lib.hid (copiedPairs_any l W _ (hq.under hb0) h112)
  have Hx := Lib.hid (hx.under hb0)
  have Hbox := Lib.hid hbox
  have Hb0 := Lib.hid hb0
  have HW := Lib.hid hW
  have H112 := Lib.hid h112
  have Hkey := Lib.hid hkey
  clear hW hb0 hbox hq hx h112 hkey hl
  go_enter Tryd.func27, Tryd.ntmps27
  go_wp2_with fail
  rw [← HW.out]
  refine (Hcall.out).mono ?_
  rintro e w1 ⟨v, es, rfl, hrow, hes, hb1⟩
  obtain ⟨adv, capv, rfl⟩ := hrow.form
  obtain ⟨n, hn⟩ : ∃ n, n = es.length := ⟨_, rfl⟩
  rw [← hn] at hrow ⊢
  have hl' : l.length = n := by rw [hn, ← hes]; simp
  have hn63 : n ≤ 9223372036854775807 := by have := H112.out; omega
  have Hrow := Lib.hid hrow
  have Hes := Lib.hid hes
  have Hn := Lib.hid hn
  have Hb1 := Lib.hid hb1
  have Hbel := Lib.hid (Hb0.out.trans (hb1.mono Hb0.out.size))
  have Hx1 := Lib.hid (Hx.out.under hb1)
  have Hbox1 := Lib.hid ((hb1.block _ (lt_of_block Hbox.out)).trans Hbox.out)
  have Hbase := Lib.hid (show w.heap.size + 1 ≤ W.heap.size from lt_of_block Hbox.out)
  clear hrow hes hn hb1 hl'
  go_wp2
  go_loop [13] (fun i => ∃ (k : Nat), i = .int .i64 (k : Int) ∧ k ≤ n ∧ Go.RowKit.Hid (∀ (j : Nat) b, j < k → l[j]? = some b → b.1 ≠ key)) (fun i => n - (intOf i).toNat)
  case atStart => exact ⟨0, rfl, by omega, fun j b hj => absurd hj (by omega)⟩
  case round =>
    obtain ⟨k, rfl, hk, hno⟩ := hrel
    have Hno := Lib.hid hno.out
    clear hno
    obtain ⟨b0, b1, b2, b3, b4, b5, b6⟩ := At7.box Hbox1.out
    simp only [Nat.zero_add] at b0 b1 b2 b3 b4 b5 b6
    by_cases hlt : k < n
    · obtain ⟨e, he⟩ := get_at' (l := es) (k := k) (by rw [← Hn.out]; exact hlt)
      obtain ⟨g, cap', hv, hgb, hgl⟩ := Hrow.out.own (List.ne_nil_of_mem (List.mem_of_getElem? he))
      injection hv with hv1 hv2 hv3
      subst hv1
      have hla : l[k]? = some (kv e) := by rw [← Hes.out, List.getElem?_map, he]; rfl
      have hk0 : (0 : Int) ≤ (k : Int) := by omega
      have hkn : (k : Int) < (n : Int) := by omega
      have hcell : ∀ j u, j < 8 → (pc e)[j]? = some u → w1.cell? ⟨g, k * 8 + j, none⟩ = some u := fun j u hj hu => by
        have := World.ownsRow.cells Hrow.out.row (g := g) rfl (k * 8 + j) u (by rw [fm_at pc_len es k e he j hj]; exact hu)
        rwa [show (⟨g, 0, none⟩ : Addr).add (k * 8 + j) = ⟨g, k * 8 + j, none⟩ by unfold Addr.add; split <;> simp_all] at this
      have c0 : w1.cell? ⟨g, k * 8, none⟩ = some (.string e.1) := hcell 0 _ (by omega) rfl
      have Hcell := Lib.hid hcell
      have He := Lib.hid he
      have Hla := Lib.hid hla
      have Hgl := Lib.hid hgl
      have Hgb := Lib.hid (Nat.le_trans (Nat.le_of_succ_le Hbase.out) hgb)
      clear hcell he hla hgl hgb hv2 hv3
      by_cases hkk : e.1 = key
      · have hs := str_is hkk
        have hput := putIn_at (v := x) Hla.out hkk Hno.out
        have Hput := Lib.hid hput
        clear hput hkk
        go_wp2_with fail
        refine (copied_any x _ _ _ Hx1.out).mono ?_
        rintro e' w2 ⟨r1, r2, rfl, hr2, hb2⟩
        obtain ⟨u1, v1, rfl, _⟩ := hr2.parts.2.1.form
        obtain ⟨u2, v2, rfl, _⟩ := hr2.parts.2.2.form
        have hrow2 := Hrow.out.under hb2
        have far : Rep (Far w2 W.heap.size (some g)) w2 (.slice u1 x.l.length v1) (.slice u2 x.p.length v2) x := hr2.keep (Kept.of_below (Below.refl _ _) _) fun j hj _ => ⟨Nat.le_trans Hb1.out.size hj.1, (fun e => by injection e with e; have := Hgl.out; have hj' : w1.heap.size ≤ j := hj.1; omega), hj.2⟩
        have hst := PRow.store (k := k) (e := e) Hn.out (hrow2.mono (base' := w.heap.size) (by have := Hbase.out; omega)) He.out (far.keep (Kept.of_below (Below.refl _ _) _) fun j hj _ => ⟨by have := Hbase.out; have h1 := hj.1; omega, hj.2⟩)
        have cell2 : ∀ j u, j < 8 → (pc e)[j]? = some u → w2.cell? ⟨g, k * 8 + j, none⟩ = some u := fun j u hj hu => (hb2.cell (p := ⟨g, k * 8 + j, none⟩) Hgl.out).trans (Hcell.out j u hj hu)
        have free2 : ∀ j, w2.frozen? ⟨g, j, none⟩ = false := fun j => World.ownsRow.frozenAt (by have := hrow2.row; rw [← Hn.out] at this; exact this) j
        have d1 := cell2 1 _ (by omega) rfl
        have d2 := cell2 2 _ (by omega) rfl
        have d3 := cell2 3 _ (by omega) rfl
        have d4 := cell2 4 _ (by omega) rfl
        have d5 := cell2 5 _ (by omega) rfl
        have d6 := cell2 6 _ (by omega) rfl
        have d7 := cell2 7 _ (by omega) rfl
        have f1 := free2 (k * 8 + 1)
        have f2 := free2 (k * 8 + 2)
        have f3 := free2 (k * 8 + 3)
        have f4 := free2 (k * 8 + 4)
        have f5 := free2 (k * 8 + 5)
        have f6 := free2 (k * 8 + 6)
        have f7 := free2 (k * 8 + 7)
        have Hst := Lib.hid hst
        have Hb2 := Lib.hid hb2
        clear hst cell2 free2 hrow2 far hr2 hb2
        go_wp2
        go_ret
        exact ⟨_, _, rfl, Hst.out, by rw [kv_set, Hes.out, Hput.out]; rfl, ((((((((Hbel.out.trans (Hb2.out.mono Hbel.out.size)).setCell Hgb.out _).setCell Hgb.out _).setCell Hgb.out _).setCell Hgb.out _).setCell Hgb.out _).setCell Hgb.out _).setCell Hgb.out _)⟩
      · have hs := str_not hkk
        have hno : ∀ (j : Nat) b, j < k + 1 → l[j]? = some b → b.1 ≠ key := fun j b hj hb => by
          by_cases ej : j = k
          · subst ej; rw [Hla.out] at hb; exact Option.some.inj hb ▸ hkk
          · exact Hno.out j b (by omega) hb
        have Hno2 := Lib.hid hno
        clear hno hkk
        go_wp2
        go_round
        case rel => exact ⟨k + 1, by go_num, by omega, Hno2.out⟩
        case measure => simp [intOf]; omega
    · have hll : es.length = l.length := by rw [← Hes.out]; simp
      have hput : putIn l key x = l ++ [(key, x)] := putIn_no fun j b hb => Hno.out j b (by have := lt_of_get hb; have h1 := Hn.out; omega) hb
      have Hput := Lib.hid hput
      have Hlen := Lib.hid (show es.length * 112 ≤ 140737488353100 by have := H112.out; omega)
      clear hll
      clear hput
      go_wp2_with fail
      refine (copied_any x _ _ _ Hx1.out).mono ?_
      rintro e w2 ⟨r1, r2, rfl, hr2, hb2⟩
      have Hr2 := Lib.hid hr2
      have Hb2 := Lib.hid hb2
      have Hrow' := Lib.hid (show PRow w1 W.heap.size (.slice adv es.length capv) es by rw [← Hn.out]; exact Hrow.out)
      clear hr2 hb2
      go_wp2_with (at_builtin; refine wp_app_p rfl _ _ rfl W.heap.size _ es (by rw [Hn.out]; rfl) (Hrow'.out.under Hb2.out) key x r1 r2 _ rfl Hkey.out (far_newP' (w0 := w1) Hrow'.out Hr2.out Hb1.out.size) _ rfl rfl Hlen.out (Nat.le_trans Hb1.out.size Hb2.out.size) ?_)
      intro v3 w3 hrow3 hgr3
      have Hrow3 := Lib.hid hrow3
      have Hb3 := Lib.hid ((Hbel.out.trans (Hb2.out.mono Hbel.out.size)).trans (hgr3.below (by have := Hbel.out.size; have := Hb2.out.size; omega) fun k hk => by have h1 := (Hrow'.out.lt k hk).1; have := Hbase.out; omega))
      clear hrow3 hgr3
      go_wp2
      go_ret
      exact ⟨_, _, rfl, Hrow3.out.mono (by have := Hbase.out; omega), by rw [Hput.out, List.map_append, Hes.out]; rfl, Hb3.out⟩
end Go.Proofs.YtnnnnlcpmocnfaaDoor

/- THE WALKS OVER Get, Put, Drop, the program's. -/
namespace Go.Proofs.YtnnnnlcpmocnfaaDoor
open Go.RowKit
set_option linter.unusedVariables false
set_option linter.unusedSimpArgs false
attribute [local go_sem] run_store_float


/-- where Drop stands -/
structure DrInv29 (l : List (ByteArray × V)) (key : ByteArray) (w : World) (k : Nat) (v : Value) (es : List (ByteArray × V × Value × Value)) (wr : World) : Prop where
  row : PRow wr w.heap.size v es
  eq : es.map kv = dropOf (l.take k) key
  bel : Below w.heap.size w wr
set_option maxRecDepth 100000 in
set_option maxHeartbeats 8000000 in
theorem drop_any : DropC 29 := by
  intro w q l key hq hl112 hkey
  obtain ⟨ad, cap, rfl, hl⟩ := hq.form
  obtain ⟨n, hn⟩ : ∃ n, n = l.length := ⟨_, rfl⟩
  rw [← hn] at hq hl hl112 ⊢
  have Hn := Lib.hid hn
  have Hq := Lib.hid hq
  have H112 := Lib.hid hl112
  clear hn hq hl112
  go_enter Tryd.func29, Tryd.ntmps29
  go_wp2
  go_loopw [5, 10] (fun v i wr => ∃ (k : Nat) (es : List (ByteArray × V × Value × Value)), i = .int .i64 (k : Int) ∧ k ≤ n ∧ Go.RowKit.Hid (DrInv29 l key w k v es wr)) (fun _ i _ => n - (intOf i).toNat)
  case atStart => exact ⟨0, [], rfl, by omega, ⟨PRow.nil _ _, by simp [dropOf], Below.refl _ _⟩⟩
  case round =>
    obtain ⟨k, es, rfl, hk, hinv⟩ := hrel
    have Hinv := Lib.hid hinv.out
    clear hinv
    by_cases hlt : k < n
    · obtain ⟨a, ha⟩ := get_at' (l := l) (k := k) (by rw [← Hn.out]; exact hlt)
      obtain ⟨g, o, c, d, rfl, hg, ⟨c0, c1, c2, c3, c4, c5, c6, c7⟩, hky, hrep⟩ := (Hq.out.under Hinv.out.bel).at ha
      obtain ⟨adc, capc, rfl, _⟩ := hrep.parts.2.1.form
      obtain ⟨add, capd, rfl, _⟩ := hrep.parts.2.2.form
      have hk0 : (0 : Int) ≤ (k : Int) := by omega
      have hkn : (k : Int) < (n : Int) := by omega
      have hlen : es.length * 112 ≤ 140737488353100 := by
        have h1 : es.length = (es.map kv).length := by simp
        rw [Hinv.out.eq] at h1
        have h2 := dropOf_len (l.take k) key
        rw [List.length_take] at h2
        have := H112.out
        omega
      have hnext := dropOf_snoc (l.take k) key a
      rw [← take_get ha, ← Hinv.out.eq] at hnext
      obtain ⟨W, hW⟩ : ∃ W, W = wr.alloc (.cells (pv a.1 a.2 (.slice adc a.2.l.length capc) (.slice add a.2.p.length capd)) 51) := ⟨_, rfl⟩
      have hBW : Below wr.heap.size wr W := by rw [hW]; exact (Below.refl _ _).alloc (Nat.le_refl _) _
      have hA : At8 W wr.heap.size 0 a.1 a.2 (.slice adc a.2.l.length capc) (.slice add a.2.p.length capd) := At8.box (t := 51) (by rw [hW]; exact blk_new wr _)
      obtain ⟨z0, z1, z2, z3, z4, z5, z6, z7⟩ := hA
      simp only [Nat.zero_add] at z0 z1 z2 z3 z4 z5 z6 z7
      have Hrep := Lib.hid (hrep.under hBW)
      have Hrow := Lib.hid (Hinv.out.row.under hBW)
      have Hbase := Lib.hid (show w.heap.size ≤ W.heap.size from Nat.le_trans Hinv.out.bel.size hBW.size)
      have Hbel := Lib.hid (Hinv.out.bel.trans (hBW.mono Hinv.out.bel.size))
      have HW := Lib.hid hW
      have Hlen := Lib.hid hlen
      have Hky := Lib.hid hky
      clear hW hBW hlen hky ha hrep hg
      by_cases hkk : a.1 = key
      · rw [if_pos hkk, List.append_nil] at hnext
        have Hnext := Lib.hid hnext
        have hs := str_is hkk
        clear hnext hkk
        go_wp2
        rw [← HW.out]
        go_roundw
        case rel => exact ⟨k + 1, es, by go_num, by omega, ⟨Hrow.out, Hnext.out.symm, Hbel.out⟩⟩
        case measure => simp [intOf]; omega
      · rw [if_neg hkk] at hnext
        have Hnext := Lib.hid hnext
        have hs := str_not hkk
        clear hnext hkk
        go_wp2_with fail
        rw [← HW.out]
        refine (copied1_any _ _ _ _ _ Hrep.out).mono ?_
        rintro e w1 ⟨r1, r2, rfl, hr1, hb1⟩
        have Hb1 := Lib.hid hb1
        have Hr1 := Lib.hid hr1
        clear hb1 hr1
        go_wp2_with (at_builtin; refine wp_app_p rfl _ _ rfl w.heap.size _ es rfl (Hrow.out.under Hb1.out) a.1 a.2 r1 r2 _ rfl Hky.out (far_newP' (w0 := W) Hrow.out Hr1.out Hbase.out) _ rfl rfl Hlen.out (Nat.le_trans Hbase.out Hb1.out.size) ?_)
        intro v2 w2 hrow2 hgr2
        have Hrow2 := Lib.hid hrow2
        have Hb2 := Lib.hid ((Hbel.out.trans (Hb1.out.mono Hbel.out.size)).trans (hgr2.below (by have := Hbase.out; have := Hb1.out.size; omega) fun k hk => (Hrow.out.lt k hk).1))
        clear hrow2 hgr2
        go_wp2
        go_roundw
        case rel => exact ⟨k + 1, _, by go_num, by omega, ⟨Hrow2.out, by rw [Hnext.out, List.map_append]; rfl, Hb2.out⟩⟩
        case measure => simp [intOf]; omega
    · have he := Hinv.out.eq
      rw [List.take_of_length_le (by have := Hn.out; omega)] at he
      have He := Lib.hid he
      clear he
      go_wp2
      go_ret
      exact ⟨_, es, rfl, Hinv.out.row, He.out, Hinv.out.bel⟩
end Go.Proofs.YtnnnnlcpmocnfaaDoor
