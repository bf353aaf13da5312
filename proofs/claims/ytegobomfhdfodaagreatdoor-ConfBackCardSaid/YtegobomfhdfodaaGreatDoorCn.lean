/- CONF: THE WALK OVER find; LEVELS AND MAPS IN MEMORY; last, waits. -/
import Derived.Test.YtegobomfhdfodaaGreatDoorCm
namespace Go.Proofs.YtegobomfhdfodaaGreatDoor
open Go.RowKit
set_option maxRecDepth 100000
set_option linter.unusedVariables false
set_option linter.unusedSimpArgs false

/-- the place, or -1 -/
def atI (o : Option Nat) : Int := match o with
  | some i => (i : Int)
  | none => -1
namespace K
/-- where a key stands -/
def find (l : List (T × Nd)) (key : T) : Option Nat := l.findIdx? fun y => y.1 == key
end K
theorem S_toList (l : K.T) : (⟨l.toArray⟩ : ByteArray).toList = l := by rw [Go.ByteArray.toList_eq]
theorem key_is (W : World) (bx : Nat) (key : K.T) (y : K.T × Nd) (q1 q2 : Value) (hbx : bx < W.heap.size) (hc : W.cell? ⟨bx, 0, none⟩ = some (S key)) :
    Calls Tryz.prog 64 #[.agg (kv y.1 y.2 q1 q2), .pointer (some ⟨bx, 0, none⟩)] W fun e w' => e = .returned (.bool (y.1 == key)) ∧ Below W.heap.size W w' := by
  have hx := blk_new W (.cells (kv y.1 y.2 q1 q2) 44)
  have c0 := (At5.box hx).c0
  have hcb : (W.alloc (.cells (kv y.1 y.2 q1 q2) 44)).cell? ⟨bx, 0, none⟩ = some (S key) := (((Below.refl W.heap.size W).alloc (Nat.le_refl _) _).cell (p := ⟨bx, 0, none⟩) hbx).trans hc
  obtain ⟨b, hb⟩ : ∃ b, (y.1 == key) = b := ⟨_, rfl⟩
  rw [hb]
  have Hb := Lib.hid hb
  clear hx hc hb
  go_enter Tryz.func64, Tryz.ntmps64
  go_wp2
  go_ret
  exact ⟨by rw [← Hb.out]; rfl, (Below.refl _ W).alloc (Nat.le_refl _) _⟩
set_option maxHeartbeats 4000000 in
theorem index_any {B : Nat → Prop} (w : World) (q : Value) (l : List (K.T × Nd)) (key : K.T) (bx : Nat) (hq : RepK B w q l) (hbx : bx < w.heap.size) (hc : w.cell? ⟨bx, 0, none⟩ = some (S key)) :
    Calls Tryz.prog 63 #[q, .func (.func 64) #[] #[.pointer (some ⟨bx, 0, none⟩)]] w fun e w' => e = .returned (.int .i64 (atI (K.find l key))) ∧ Below w.heap.size w w' := by
  obtain ⟨ad, cap, rfl, hl⟩ := hq.form
  obtain ⟨n, hn⟩ : ∃ n, n = l.length := ⟨_, rfl⟩
  rw [← hn] at hq hl ⊢
  have Hq := Lib.hid hq
  have Hn := Lib.hid hn
  have Hc := Lib.hid (And.intro hbx hc)
  clear hq hn hbx hc
  go_enter Tryz.func63, Tryz.ntmps63
  go_wp2
  go_loopw [8] (fun i wr => ∃ k : Nat, i = .int .i64 (k : Int) ∧ k ≤ n ∧ (∀ j e, j < k → l[j]? = some e → (e.1 == key) = false) ∧ Below w.heap.size w wr) (fun i _ => n - (intOf i).toNat)
  case atStart => exact ⟨0, rfl, Nat.zero_le _, fun j e hj => by omega, Below.refl _ _⟩
  case round =>
    obtain ⟨k, rfl, hk, hall, hbel⟩ := hrel
    have Hall := Lib.hid hall
    have Hbel := Lib.hid hbel
    clear hall hbel
    by_cases hlt : k < n
    · obtain ⟨y, hy⟩ := get_at (l := l) (k := k) (by rw [← Hn.out]; exact hlt)
      obtain ⟨g, o, c, d, rfl, hg, ⟨c0, c1, c2, c3, c4⟩, hky, hrep⟩ := (Hq.out.under Hbel.out).at hy
      have Hy := Lib.hid hy
      clear hy hrep hky
      go_wp2_with fail
      refine (key_is wr bx key y c d (Nat.lt_of_lt_of_le Hc.out.1 Hbel.out.size) ((Hbel.out.cell (p := ⟨bx, 0, none⟩) Hc.out.1).trans Hc.out.2)).mono ?_
      rintro en w1 ⟨rfl, hb1⟩
      have Hb1 := Lib.hid (Hbel.out.trans (hb1.mono Hbel.out.size))
      clear hb1 c0 c1 c2 c3 c4
      obtain ⟨b, hb⟩ : ∃ b, (y.1 == key) = b := ⟨_, rfl⟩
      rw [hb]
      have HB := Lib.hid hb
      clear hb
      cases b with
      | true =>
        have hfin : K.find l key = some k := by
          unfold K.find
          rw [List.findIdx?_eq_some_iff_getElem]
          have hl : k < l.length := by have := Hn.out; omega
          refine ⟨hl, ?_, fun j hj => ?_⟩
          · have := (List.getElem?_eq_some_iff.1 Hy.out).2
            rw [this]; exact HB.out
          · have := Hall.out j _ hj (List.getElem?_eq_getElem (by omega))
            rw [this]; decide
        have Hfin := Lib.hid hfin
        clear hfin
        go_wp2
        go_ret
        exact ⟨by rw [Hfin.out]; rfl, Hb1.out⟩
      | false =>
        go_wp2
        go_roundw
        case rel =>
          refine ⟨k + 1, by go_num, by omega, fun j x hj hjx => ?_, Hb1.out⟩
          rcases Nat.lt_or_ge j k with q | q
          · exact Hall.out j x q hjx
          · obtain rfl : j = k := by omega
            rw [Hy.out] at hjx
            injection hjx with hjx
            subst hjx
            exact HB.out
        case measure => simp [intOf]; omega
    · have hkn : k = n := by omega
      have hfin : K.find l key = none := by
        unfold K.find
        rw [List.findIdx?_eq_none_iff]
        intro x hx
        obtain ⟨j, hj, rfl⟩ := List.mem_iff_getElem.1 hx
        exact Hall.out j _ (by have := Hn.out; omega) (List.getElem?_eq_getElem hj)
      have Hfin := Lib.hid hfin
      clear hfin
      go_wp2
      go_ret
      exact ⟨by rw [Hfin.out]; rfl, Hbel.out⟩
theorem find_any {B : Nat → Prop} (w : World) (q : Value) (l : List (K.T × Nd)) (key : K.T) (hq : RepK B w q l) :
    Calls Tryz.prog 35 #[q, S key] w fun e w' => e = .returned (.int .i64 (atI (K.find l key))) ∧ Below w.heap.size w w' := by
  obtain ⟨W, hW⟩ : ∃ W, W = w.alloc (.cells #[S key] 9) := ⟨_, rfl⟩
  have hb : Below w.heap.size w W := by rw [hW]; exact (Below.refl _ w).alloc (Nat.le_refl _) _
  have hx : W.heap[w.heap.size]? = some (.cells #[S key] 9 (0, 0)) := by rw [hW]; exact blk_new w _
  have hix := index_any W q l key w.heap.size (hq.under hb) (blk_lt hx) (cell_of_row W _ 0 _ 9 (0, 0) hx)
  have HB := Lib.hid hb
  obtain ⟨ad, cap, rfl, hl⟩ := hq.form
  generalize hn : l.length = n at *
  clear hq hb hx hn
  go_enter Tryz.func35, Tryz.ntmps35
  go_wp2_with fail
  rw [← hW]
  refine hix.mono ?_
  rintro e w1 ⟨rfl, hb1⟩
  go_wp2
  go_ret
  exact ⟨rfl, HB.out.trans (hb1.mono HB.out.size)⟩

/-- a key as it lies in a row: key, node, its list, its keys -/
abbrev E := K.T × Nd × Value × Value
def E.kn (e : E) : K.T × Nd := (e.1, e.2.1)
/-- its five cells -/
def kc (e : E) : List Value := [S e.1, .int .u8 (e.2.1.k : Int), S e.2.1.s, e.2.2.1, e.2.2.2]
theorem kc_len (e : E) : (kc e).length = 5 := rfl
/-- a level as it lies in a row: its indentation, its keys -/
structure LV where
  ind : Nat
  q : Value
  es : List E
def lc (a : LV) : List Value := [.int .i64 (a.ind : Int), a.q]
theorem lc_len (a : LV) : (lc a).length = 2 := rfl
theorem fm_len {α : Type} {f : α → List Value} {z : Nat} (hz : ∀ a, (f a).length = z) (es : List α) : (es.flatMap f).length = es.length * z := by
  induction es with
  | nil => simp
  | cons e es ih => rw [List.flatMap_cons, List.length_append, ih, hz, List.length_cons, Nat.add_mul]; omega
theorem fm_at {α : Type} {f : α → List Value} {z : Nat} (hz : ∀ a, (f a).length = z) (es : List α) : ∀ (i : Nat) (e : α), es[i]? = some e → ∀ j, j < z → (es.flatMap f)[i * z + j]? = (f e)[j]? := by
  induction es with
  | nil => intro i e h; simp at h
  | cons x es ih =>
    intro i e h j hj
    rw [List.flatMap_cons]
    cases i with
    | zero =>
      simp at h; subst h
      rw [List.getElem?_append_left (by rw [hz]; omega)]
      simp
    | succ i =>
      rw [List.getElem?_append_right (by rw [hz, Nat.add_mul]; omega)]
      have e' : (i + 1) * z + j - (f x).length = i * z + j := by rw [hz, Nat.add_mul]; omega
      rw [e']
      exact ih i e (by simpa using h) j hj
/-- blocks of texts and keys from base on, apart from these slices -/
def Far (w : World) (base : Nat) (act : List Value) (b : Nat) : Prop := base ≤ b ∧ (∀ q ∈ act, q.ownBlock ≠ some b) ∧ ∃ cs t, w.heap[b]? = some (.cells cs t (0, 0)) ∧ (t = 9 ∨ t = 44)
/-- new memory, which may be written -/
def New (base : Nat) (w : World) (b : Nat) : Prop := base ≤ b ∧ ∃ cs t, w.heap[b]? = some (.cells cs t (0, 0))
/-- a row of keys of the call's own -/
structure KR (w : World) (base : Nat) (act : List Value) (q : Value) (es : List E) : Prop where
  row : w.ownsRow base 44 5 q es.length (es.flatMap kc)
  key : ∀ e ∈ es, e.1.length ≤ 1000000
  rep : ∀ e ∈ es, Rep (Far w base act) w e.2.2.1 e.2.2.2 e.2.1
/-- the maps in the variable g -/
structure MS (base far g : Nat) (v : Value) (lv : List LV) (w : World) : Prop where
  bf : base ≤ far
  bg : base ≤ g
  box : w.heap[g]? = some (.cells #[v] 65 (0, 0))
  row : w.ownsRow base 63 2 v lv.length (lv.flatMap lc)
  keys : ∀ a ∈ lv, KR w far (lv.map (·.q)) a.q a.es
  apart : lv.Pairwise fun a b => ∀ k, a.q.ownBlock = some k → b.q.ownBlock ≠ some k
theorem row_form {w : World} {base : Nat} {e : TypeId} {z : Nat} {v : Value} {n : Nat} {xs : List Value} (h : w.ownsRow base e z v n xs) : ∃ ad cap, v = .slice ad n cap ∧ n ≤ 9223372036854775807 := by
  rcases h.2 with ⟨hv, hn⟩ | ⟨g, cap, cur, hv, _, _, h1, h2, _⟩
  · exact ⟨none, 0, by rw [hv, hn], by omega⟩
  · exact ⟨_, cap, hv, by simp only [maxLen] at h2; omega⟩
/-- a row of keys, read as data -/
theorem KR.data {w : World} {base : Nat} {act act' : List Value} {q : Value} {es : List E} (h : KR w base act q es) (hq : ∀ k, q.ownBlock = some k → ∀ a ∈ act', a.ownBlock ≠ some k) (ha : ∀ a ∈ act', a ∈ act) : RepK (Far w base act') w q (es.map E.kn) := by
  have hmono : ∀ b, Far w base act b → b < w.heap.size → Far w base act' b := fun b hb _ => ⟨hb.1, fun a h' => hb.2.1 a (ha a h'), hb.2.2⟩
  rcases h.row.2 with ⟨rfl, hn⟩ | ⟨g, cap, cur, rfl, hbg, hg, h1, h2, h3, h4⟩
  · have hx : es = [] := List.eq_nil_of_length_eq_zero hn
    subst hx
    exact RepK.nil _ _
  · refine ⟨g, 0, fun i => ((es[i]?).map (·.2.2.1)).getD (.bool true), fun i => ((es[i]?).map (·.2.2.2)).getD (.bool true), ⟨_, cap, by rw [List.length_map], ⟨by rw [List.length_map]; exact h1, by simp only [maxLen] at h2; omega⟩, fun _ => ⟨rfl, ⟨hbg, hq g rfl, _, _, hg, .inr rfl⟩, (Array.getElem?_eq_some_iff.1 hg).1⟩⟩, fun i y hy => ?_⟩
    rw [List.getElem?_map, Option.map_eq_some_iff] at hy
    obtain ⟨e, he, rfl⟩ := hy
    simp only [he, Option.map_some, Option.getD_some]
    have hcell : ∀ j u, j < 5 → (kc e)[j]? = some u → w.cell? ⟨g, 0 + i * 5 + j, none⟩ = some u := fun j u hj hu => by
      have := World.ownsRow.cells h.row (g := g) rfl (i * 5 + j) u (by rw [fm_at kc_len es i e he j hj]; exact hu)
      rwa [show (⟨g, 0, none⟩ : Addr).add (i * 5 + j) = ⟨g, 0 + i * 5 + j, none⟩ by unfold Addr.add; split <;> simp_all] at this
    have hm := List.mem_of_getElem? he
    exact ⟨⟨hcell 0 _ (by omega) rfl, hcell 1 _ (by omega) rfl, hcell 2 _ (by omega) rfl, hcell 3 _ (by omega) rfl, hcell 4 _ (by omega) rfl⟩, by have := h.key e hm; show e.1.length ≤ _; omega, (h.rep e hm).mono hmono⟩
theorem KR.data' {w : World} {base : Nat} {act : List Value} {q : Value} {es : List E} (h : KR w base act q es) : RepK (New base w) w q (es.map E.kn) :=
  (h.data (act' := []) (fun _ _ _ h => absurd h (by simp)) (fun _ h => absurd h (by simp))).mono fun b hb _ => ⟨hb.1, by obtain ⟨cs, t, h, _⟩ := hb.2.2; exact ⟨cs, t, h⟩⟩

theorem last_any (w : World) (b n cap : Nat) (hn : 0 < n) (hl : n ≤ 1000000) : Calls Tryz.prog 52 #[.slice (some ⟨b, 0, none⟩) n cap] w fun e w' => e = .returned (.pointer (some ⟨b, (n - 1) * 2, none⟩)) ∧ w = w' := by
  have h1 : (0 : Int) ≤ (n : Int) - 1 := by omega
  have h2 : (n : Int) - 1 < (n : Int) := by omega
  have h3 : ((n : Int) - 1).toNat = n - 1 := by omega
  go_enter Tryz.func52, Tryz.ntmps52
  go_wp2
  go_ret
  simp
namespace K
/-- whether the last key has no value -/
def waits (l : List (T × Nd)) : Bool := match l.getLast? with
  | some y => y.2.k == 0
  | none => false
end K
end Go.Proofs.YtegobomfhdfodaaGreatDoor
