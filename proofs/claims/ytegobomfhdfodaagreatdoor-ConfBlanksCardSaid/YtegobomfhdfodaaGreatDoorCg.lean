/- CONF: THE WALK OVER read. -/
import Derived.Test.YtegobomfhdfodaaGreatDoorCf
namespace Go.Proofs.YtegobomfhdfodaaGreatDoor
open Go.RowKit
set_option maxRecDepth 100000
set_option linter.unusedVariables false
set_option linter.unusedSimpArgs false

namespace K
structure Line where
  indent : Nat
  key : T
  node : Leaf
def noLeaf : Leaf := ⟨0, [], []⟩
/-- what stands behind a value -/
def endOk (r : T) : Bool := (bare r).isEmpty || (decide (0 < blanks r) && ((bare r).head? == some 35))
def readV (ind : Nat) (key u : T) : Option Line :=
  match value u with
  | none => none
  | some x => if endOk x.2 then some ⟨ind, key, x.1⟩ else none
def readR (ind : Nat) (key t : T) : Option Line :=
  if t = [] then some ⟨ind, key, noLeaf⟩
  else if blanks t = 0 then none
  else if bare t = [] ∨ (bare t).head? = some 35 then some ⟨ind, key, noLeaf⟩
  else readV ind key (bare t)
def readK (ind : Nat) (key rest : T) : Option Line :=
  if isKey key then
    match rest with
    | 58 :: t => readR ind key t
    | _ => none
  else none
/-- a line -/
def read (s : T) : Option Line := readK (blanks s) ((bare s).take (upto (bare s) [58])) ((bare s).drop (upto (bare s) [58]))
end K
/-- how read ends -/
def RP (w : World) (o : Option K.Line) (e : Ending) (w' : World) : Prop :=
  Below w.heap.size w w' ∧ match o with
  | some x => ∃ v, e = .returned (.agg #[.int .i64 (x.indent : Int), S x.key, .int .u8 (x.node.kind : Int), S x.node.text, v, .slice none 0 0]) ∧ Txs w.heap.size v x.node.list w'
  | none => e = pan 15
abbrev Z6 : Array Value := #[.int .i64 0, .string ⟨#[]⟩, .int .u8 0, .string ⟨#[]⟩, .slice none 0 0, .slice none 0 0]
theorem box6 {w : World} {g : Nat} {x0 x1 x2 x3 x4 x5 : Value} {t : TypeId} (h : w.heap[g]? = some (.cells #[x0, x1, x2, x3, x4, x5] t (0, 0))) :
    w.cell? ⟨g, 0, none⟩ = some x0 ∧ w.cell? ⟨g, 1, none⟩ = some x1 ∧ w.cell? ⟨g, 2, none⟩ = some x2 ∧ w.cell? ⟨g, 3, none⟩ = some x3 ∧ w.cell? ⟨g, 4, none⟩ = some x4 ∧ w.cell? ⟨g, 5, none⟩ = some x5 :=
  ⟨cell_of_row w g 0 _ t (0, 0) h, cell_of_row w g 1 _ t (0, 0) h, cell_of_row w g 2 _ t (0, 0) h, cell_of_row w g 3 _ t (0, 0) h, cell_of_row w g 4 _ t (0, 0) h, cell_of_row w g 5 _ t (0, 0) h⟩
theorem fz6 {w : World} {g : Nat} {x : Array Value} {t : TypeId} (h : w.heap[g]? = some (.cells x t (0, 0))) (j : Nat) : w.frozen? ⟨g, j, none⟩ = false := frozen_of_row w g j _ t h
/-- what read carries: its cursor, its result's block, its line's -/
structure RD (w : World) (n g h : Nat) (c : K.T) (ln : Array Value) (V : World) : Prop where
  cur : Cur V g c
  res : V.heap[n]? = some (.cells Z6 71 (0, 0))
  line : V.heap[h]? = some (.cells ln 71 (0, 0))
  low : Below n w V
theorem RD.under {w : World} {n g h : Nat} {c : K.T} {ln : Array Value} {V V' : World} (r : RD w n g h c ln V) (hn : n ≤ V.heap.size) (hb : Below V.heap.size V V') : RD w n g h c ln V' :=
  ⟨r.cur.under hb, blk_under r.res hb, blk_under r.line hb, r.low.trans (hb.mono hn)⟩
theorem RD.mv {w : World} {n g h : Nat} {c c' : K.T} {ln : Array Value} {V V' : World} (r : RD w n g h c ln V) (hn : n < g) (hh : h ≠ g) (hm : Mv g c' V V') : RD w n g h c' ln V' :=
  ⟨hm.1, (hm.2.block n (blk_lt r.res) (fun e => by injection e with e; omega)).trans r.res, (hm.2.block h (blk_lt r.line) (fun e => by injection e with e; exact hh e)).trans r.line,
    r.low.trans ⟨hm.2.os, hm.2.tape, hm.2.output, hm.2.size, fun i hi => hm.2.block i (by have := blk_lt r.res; omega) (fun e => by injection e with e; omega)⟩⟩
theorem RD.lows {w : World} {n g h : Nat} {c : K.T} {ln : Array Value} {V V' : World} (r : RD w n g h c ln V) (hn : n < g) (hm : V.grownBy V' (some g)) : Below n w V' :=
  r.low.trans ⟨hm.os, hm.tape, hm.output, hm.size, fun i hi => hm.block i (by have := blk_lt r.res; omega) (fun e => by injection e with e; omega)⟩
/-- the answer stored -/
theorem put6_keep {w V : World} {n g h : Nat} {c : K.T} {ln : Array Value} {v : Value} {ss : List K.T} (r : RD w n g h c ln V) (hrow : Txs (n + 1) v ss V) (a0 a1 a2 a3 a4 a5 : Value) {U : World}
    (hU : U = (((((V.setCell ⟨n, 0, none⟩ a0).setCell ⟨n, 1, none⟩ a1).setCell ⟨n, 2, none⟩ a2).setCell ⟨n, 3, none⟩ a3).setCell ⟨n, 4, none⟩ a4).setCell ⟨n, 5, none⟩ a5) :
    (U.cell? ⟨n, 0, none⟩ = some a0 ∧ U.cell? ⟨n, 1, none⟩ = some a1 ∧ U.cell? ⟨n, 2, none⟩ = some a2 ∧ U.cell? ⟨n, 3, none⟩ = some a3 ∧ U.cell? ⟨n, 4, none⟩ = some a4 ∧ U.cell? ⟨n, 5, none⟩ = some a5) ∧ Below n w U ∧ Txs n v ss U := by
  have hg : V.grownBy U (some n) := by
    rw [hU]
    exact (((((set_grown1 V n 0 a0).trans (set_grown1 _ n 1 a1)).trans (set_grown1 _ n 2 a2)).trans (set_grown1 _ n 3 a3)).trans (set_grown1 _ n 4 a4)).trans (set_grown1 _ n 5 a5)
  have hk : U.heap[n]? = some (.cells #[a0, a1, a2, a3, a4, a5] 71 (0, 0)) := by
    rw [hU]
    exact heap_setCell_same _ n 5 _ 71 _ (heap_setCell_same _ n 4 _ 71 _ (heap_setCell_same _ n 3 _ 71 _ (heap_setCell_same _ n 2 _ 71 _ (heap_setCell_same _ n 1 _ 71 _ (heap_setCell_same V n 0 _ 71 _ r.res)))))
  refine ⟨box6 hk, r.low.trans ⟨hg.os, hg.tape, hg.output, hg.size, fun i hi => hg.block i (by have := blk_lt r.res; omega) (fun e => by injection e with e; omega)⟩, ?_⟩
  exact World.ownsRow.mono (show U.ownsRow (n + 1) 9 1 v ss.length (ss.map S) from Txs.kept hrow hg (by omega)) (by omega)
theorem put_line {w V : World} {n g h : Nat} {c : K.T} {x0 x1 x2 x3 x4 x5 : Value} (r : RD w n g h c #[x0, x1, x2, x3, x4, x5] V) (hnh : n < h) (hgh : g ≠ h) {a b d e : Value} {U : World}
    (hU : U = (((V.setCell ⟨h, 2, none⟩ a).setCell ⟨h, 3, none⟩ b).setCell ⟨h, 4, none⟩ d).setCell ⟨h, 5, none⟩ e) : RD w n g h c #[x0, x1, a, b, d, e] U ∧ V.grownBy U (some h) := by
  have hg : V.grownBy U (some h) := by
    rw [hU]
    exact (((set_grown1 V h 2 a).trans (set_grown1 _ h 3 b)).trans (set_grown1 _ h 4 d)).trans (set_grown1 _ h 5 e)
  have hk : U.heap[h]? = some (.cells #[x0, x1, a, b, d, e] 71 (0, 0)) := by
    rw [hU]
    exact heap_setCell_same _ h 5 _ 71 _ (heap_setCell_same _ h 4 _ 71 _ (heap_setCell_same _ h 3 _ 71 _ (heap_setCell_same V h 2 _ 71 _ r.line)))
  exact ⟨⟨(hg.block g (blk_lt r.cur) (fun e => by injection e with e; exact hgh e)).trans r.cur, (hg.block n (blk_lt r.res) (fun e => by injection e with e; omega)).trans r.res, hk,
    r.low.trans ⟨hg.os, hg.tape, hg.output, hg.size, fun i hi => hg.block i (by have := blk_lt r.res; omega) (fun e => by injection e with e; omega)⟩⟩, hg⟩
theorem itemsF_len : ∀ (f : Nat) (acc : List K.T) (l : K.T) {x : List K.T} {r : K.T}, K.itemsF f acc l = some (x, r) → r.length ≤ l.length
  | 0, _, _, _, _, h => by cases h
  | f + 1, acc, l, x, r, h => by
    unfold K.itemsF at h
    split at h
    · cases hi : K.item l.tail with
      | none => rw [hi] at h; cases h
      | some y =>
        obtain ⟨y1, y2⟩ := y
        rw [hi] at h
        have h1 := itemsF_len f _ _ h
        have h2 := K.item_len hi
        have h3 : l.tail.length ≤ l.length := by simp
        simp only at h1
        omega
    · split at h
      · injection h with h; injection h with h1 h2; rw [← h2]; simp
      · cases h
theorem list_len {t : K.T} {x : List K.T} {r : K.T} (h : K.list t = some (x, r)) : r.length ≤ t.length := by
  have hb := K.bare_len t
  unfold K.list at h
  split at h
  · injection h with h; injection h with h1 h2; rw [← h2]; simp; omega
  · cases hi : K.item (K.bare t) with
    | none => rw [hi] at h; cases h
    | some y =>
      obtain ⟨y1, y2⟩ := y
      rw [hi] at h
      have h1 := itemsF_len _ _ _ h
      have h2 := K.item_len hi
      simp only at h1
      omega
theorem value_len {u r : K.T} {x : K.Leaf} (h : K.value u = some (x, r)) : r.length ≤ u.length := by
  have h3 : u.tail.length ≤ u.length := by simp
  unfold K.value at h
  split at h
  · cases hi : K.qt (u.tail.length + 1) [] u.tail with
    | none => rw [hi] at h; cases h
    | some y => obtain ⟨y1, y2⟩ := y; rw [hi] at h; have := K.qt_len _ _ _ _ _ hi; simp at h; rw [← h.2]; omega
  · split at h
    · cases hi : K.list u.tail with
      | none => rw [hi] at h; cases h
      | some y => obtain ⟨y1, y2⟩ := y; rw [hi] at h; have := list_len hi; simp at h; rw [← h.2]; omega
    · cases hi : K.plainOf u with
      | none => rw [hi] at h; cases h
      | some y =>
        obtain ⟨y1, y2⟩ := y
        rw [hi] at h
        simp at h
        unfold K.plainOf at hi
        split at hi
        · injection hi with hi; injection hi with h4 h5; rw [← h.2, ← h5]; simp
        · cases hi
theorem RP.no {w w' : World} {e : Ending} (h1 : e = pan 15) (h2 : Below w.heap.size w w') : RP w none e w' := ⟨h2, h1⟩
set_option maxHeartbeats 4000000 in
theorem read_any (w : World) (s : K.T) (hl : s.length ≤ 1000000) (hT : Tb w) : Calls Tryz.prog 32 #[S s] w (RP w (K.read s)) := by
  obtain ⟨R, hR⟩ : ∃ R, K.read s = R := ⟨_, rfl⟩
  rw [hR]
  unfold K.read at hR
  obtain ⟨n, hn⟩ : ∃ n, n = w.heap.size := ⟨_, rfl⟩
  obtain ⟨W, hW⟩ : ∃ W, W = (w.alloc (.cells Z6 71)).alloc (.cells #[S s] 99) := ⟨_, rfl⟩
  have hwb : Below w.heap.size w W := by rw [hW]; exact ((Below.refl _ w).alloc (Nat.le_refl _) _).alloc (by rw [World.size_alloc]; omega) _
  have hres : W.heap[n]? = some (.cells Z6 71 (0, 0)) := by rw [hW, hn]; exact blk_alloc (blk_new w _) _
  have hcW : Cur W (n + 1) s := by
    have := blk_new (w.alloc (.cells Z6 71)) (.cells #[S s] 99)
    rw [World.size_alloc] at this
    rw [hW, hn]
    exact this
  have hn4 : 4 < n := by rw [hn]; exact hT.2
  have hsp := cu_spaces W (n + 1) s (by omega) hcW
  have hbl := K.bare_len s
  obtain ⟨ind, hind⟩ : ∃ k, K.blanks s = k := ⟨_, rfl⟩
  obtain ⟨a, ha⟩ : ∃ a, K.bare s = a := ⟨_, rfl⟩
  rw [hind, ha] at hsp hR
  rw [ha] at hbl
  obtain ⟨key, hkey⟩ : ∃ k, a.take (K.upto a [58]) = k := ⟨_, rfl⟩
  obtain ⟨rest, hrest⟩ : ∃ k, a.drop (K.upto a [58]) = k := ⟨_, rfl⟩
  rw [hkey, hrest] at hR
  have hkl : key.length ≤ 1000000 := by rw [← hkey]; simp; omega
  have hrl : rest.length ≤ 1000000 := by rw [← hrest]; simp; omega
  have HR := Lib.hid hR
  have HW := Lib.hid (And.intro hW hn)
  have HN := Lib.hid hn
  have HT := Lib.hid (hT.under hwb)
  have HB := Lib.hid hwb
  have HRES := Lib.hid hres
  have HL := Lib.hid (And.intro hbl hl)
  clear hR hW hn hT hwb hcW hl hbl hind ha hres
  go_enter Tryz.func32, Tryz.ntmps32
  go_wp2_with fail
  rw [← HW.out.1, ← HN.out]
  refine hsp.mono ?_
  rintro e w1 ⟨rfl, hm1⟩
  have hun := cu_until w1 (n + 1) a [58] (by have := HL.out; omega) hm1.1 (ixa_one w1 a 58 (by decide))
  rw [hkey, hrest] at hun
  have HM1 := Lib.hid hm1
  clear hm1 hsp hkey hrest
  go_wp2_with fail
  refine hun.mono ?_
  rintro e w2 ⟨rfl, hm2⟩
  obtain ⟨h, hh⟩ : ∃ h, h = w2.heap.size := ⟨_, rfl⟩
  obtain ⟨X, hX⟩ : ∃ X, X = w2.alloc (.cells #[.int .i64 (ind : Int), S key, .int .u8 0, .string ⟨#[]⟩, .slice none 0 0, .slice none 0 0] 71) := ⟨_, rfl⟩
  have hmm : Mv (n + 1) rest W w2 := HM1.out.trans hm2
  have hhn : n + 2 ≤ h := by
    have := hmm.2.size
    have := HW.out.1
    rw [hh]
    have h3 : W.heap.size = n + 2 := by rw [HW.out.1, World.size_alloc, World.size_alloc, ← HN.out]
    omega
  have hlowW : Below n w W := by have := HB.out; rw [← HN.out] at this; exact this
  have hlow2 : Below n w w2 := hlowW.trans ⟨hmm.2.os, hmm.2.tape, hmm.2.output, hmm.2.size, fun i hi => hmm.2.block i (by have := blk_lt HRES.out; omega) (fun e => by injection e with e; omega)⟩
  have hr : RD w n (n + 1) h rest #[.int .i64 (ind : Int), S key, .int .u8 0, .string ⟨#[]⟩, .slice none 0 0, .slice none 0 0] X := by
    rw [hX, hh]
    exact ⟨blk_alloc hmm.1 _, blk_alloc ((hmm.2.block n (blk_lt HRES.out) (fun e => by injection e with e; omega)).trans HRES.out) _, blk_new w2 _, hlow2.alloc (by have := blk_lt hmm.1; omega) _⟩
  have hTX : Tb X := by rw [hX]; exact ((HT.out.mv hmm.2 (by omega)).under ((Below.refl _ w2).alloc (Nat.le_refl _) _))
  have HX := Lib.hid (And.intro hX hh)
  have HTX := Lib.hid hTX
  have HRD := Lib.hid hr
  obtain ⟨k0, k1, k2, k3, k4, k5⟩ := box6 hr.line
  have hlh := blk_lt hr.line
  have hky := key_any key (by omega) X
  clear hm2 hun hX hh hmm hlowW hlow2 hr hTX
  have hnX : n ≤ X.heap.size := by omega
  go_wp2_with fail
  rw [← HX.out.1, ← HX.out.2]
  go_wp2_with fail
  refine hky.mono ?_
  rintro e x1 ⟨rfl, hb1⟩
  have HRD1 := Lib.hid (HRD.out.under hnX hb1)
  have HTX1 := Lib.hid (HTX.out.under hb1)
  have hnx1 : n ≤ x1.heap.size := by have := hb1.size; omega
  clear hky hb1 k0 k1 k2 k3 k4 k5 hlh
  have hR := HR.out
  unfold K.readK at hR
  cases hkb : K.isKey key with
  | false =>
    rw [hkb] at hR
    have hR' : R = none := by rw [← hR]; rfl
    clear hR
    go_wp2_with fail
    refine (unless_no 15 x1).mono ?_
    rintro e x2 ⟨rfl, rfl⟩
    go_wp2
    try rw [hR']
    exact ⟨rfl, RP.no rfl (by rw [← HN.out]; exact HRD1.out.low)⟩
  | true =>
    rw [hkb, if_pos rfl] at hR
    have HR2 := Lib.hid hR
    clear hR
    go_wp2_with fail
    refine (unless_yes 15 x1).mono ?_
    rintro e x2 ⟨rfl, rfl⟩
    go_wp2_with fail
    cases rest with
    | nil =>
      have hR' : R = none := by rw [← HR2.out]
      have hs := cu_sign_no x1 (n + 1) 58 HRD1.out.cur
      refine hs.mono ?_
      rintro e x2 ⟨rfl, rfl⟩
      go_wp2
      try rw [hR']
      exact ⟨rfl, RP.no rfl (by rw [← HN.out]; exact HRD1.out.low)⟩
    | cons y t =>
      by_cases hy : y = 58
      · subst hy
        have hs := cu_sign x1 (n + 1) 58 t HRD1.out.cur
        refine hs.mono ?_
        rintro e x2 ⟨rfl, hm⟩
        have HRD2 := Lib.hid (HRD1.out.mv (by omega) (by omega) hm)
        have HTX2 := Lib.hid (HTX1.out.mv hm.2 (by omega))
        have hnx2 : n ≤ x2.heap.size := by have := hm.2.size; omega
        have hR3 : K.readR ind key t = R := HR2.out
        have htl : t.length ≤ 1000000 := by simp at hrl; omega
        clear hs hm hrl
        have c2 := HRD2.out.cur.cell
        have hlc := blk_lt HRD2.out.cur
        unfold K.readR at hR3
        cases t with
        | nil =>
          have hR' : R = some ⟨ind, key, K.noLeaf⟩ := by rw [← hR3, if_pos rfl]
          clear hR3
          obtain ⟨k0, k1, k2, k3, k4, k5⟩ := box6 HRD2.out.line
          obtain ⟨z0, z1, z2, z3, z4, z5⟩ := box6 HRD2.out.res
          have f0 := fz6 HRD2.out.res 0
          have f1 := fz6 HRD2.out.res 1
          have f2 := fz6 HRD2.out.res 2
          have f3 := fz6 HRD2.out.res 3
          have f4 := fz6 HRD2.out.res 4
          have f5 := fz6 HRD2.out.res 5
          have hlz := blk_lt HRD2.out.res
          have hlh := blk_lt HRD2.out.line
          go_wp2
          obtain ⟨⟨r0, r1, r2, r3, r4, r5⟩, o1, o2⟩ := put6_keep HRD2.out (Txs.nil _ _) (.int .i64 (ind : Int)) (S key) (.int .u8 0) (.string ⟨#[]⟩) (.slice none 0 0) (.slice none 0 0) rfl
          refine bodyPost_ret (v := .agg #[.int .i64 (ind : Int), S key, .int .u8 0, .string ⟨#[]⟩, .slice none 0 0, .slice none 0 0]) (by simp [results, Tryz.results32, go_sem, r0, r1, r2, r3, r4, r5]) rfl ?_
          try rw [hR']
          exact ⟨by rw [← HN.out]; exact o1, _, rfl, by rw [← HN.out]; exact o2⟩
        | cons y t =>
          have hne : ¬ (y :: t) = [] := by simp
          rw [if_neg hne] at hR3
          obtain ⟨l, hl⟩ : ∃ l, y :: t = l := ⟨_, rfl⟩
          rw [hl] at hR3 htl HRD2 c2 hne
          have hle : List.isEmpty l = false := by rw [← hl]; rfl
          clear hl
          have hs2 := cu_spaces x2 (n + 1) l (by omega) HRD2.out.cur
          have hbl := K.bare_len l
          obtain ⟨bk, hbk⟩ : ∃ b, K.blanks l = b := ⟨_, rfl⟩
          obtain ⟨u, hu⟩ : ∃ u, K.bare l = u := ⟨_, rfl⟩
          rw [hbk] at hs2 hR3
          rw [hu] at hs2 hR3 hbl
          have HR3 := Lib.hid hR3
          have HTL := Lib.hid (show u.length ≤ 1000000 from by omega)
          clear hbk hu hR3 hbl htl
          go_wp2_with fail
          refine hs2.mono ?_
          rintro e x3 ⟨rfl, hm⟩
          have HRD3 := Lib.hid (HRD2.out.mv (by omega) (by omega) hm)
          have HTX3 := Lib.hid (HTX2.out.mv hm.2 (by omega))
          have hnx3 : n ≤ x3.heap.size := by have := hm.2.size; omega
          clear hs2 hm c2 hlc
          by_cases hb0 : bk = 0
          · subst hb0
            have hR' : R = none := by rw [← HR3.out, if_pos rfl]
            go_wp2_with fail
            refine (unless_no 15 x3).mono ?_
            rintro e x4 ⟨rfl, rfl⟩
            go_wp2
            try rw [hR']
            exact ⟨rfl, RP.no rfl (by rw [← HN.out]; exact HRD3.out.low)⟩
          · have hb1 : 0 < bk := by omega
            have hR4 := HR3.out
            rw [if_neg hb0] at hR4
            go_wp2_with fail
            refine (unless_yes 15 x3).mono ?_
            rintro e x4 ⟨rfl, rfl⟩
            have c3 := HRD3.out.cur.cell
            have hlc := blk_lt HRD3.out.cur
            have hat := cu_at x3 (n + 1) u 35 HRD3.out.cur
            cases u with
            | nil =>
              have hR' : R = some ⟨ind, key, K.noLeaf⟩ := by rw [← hR4, if_pos (.inl rfl)]
              clear hR4 hat
              obtain ⟨k0, k1, k2, k3, k4, k5⟩ := box6 HRD3.out.line
              obtain ⟨z0, z1, z2, z3, z4, z5⟩ := box6 HRD3.out.res
              have f0 := fz6 HRD3.out.res 0
              have f1 := fz6 HRD3.out.res 1
              have f2 := fz6 HRD3.out.res 2
              have f3 := fz6 HRD3.out.res 3
              have f4 := fz6 HRD3.out.res 4
              have f5 := fz6 HRD3.out.res 5
              have hlz := blk_lt HRD3.out.res
              have hlh := blk_lt HRD3.out.line
              go_wp2
              obtain ⟨⟨r0, r1, r2, r3, r4, r5⟩, o1, o2⟩ := put6_keep HRD3.out (Txs.nil _ _) (.int .i64 (ind : Int)) (S key) (.int .u8 0) (.string ⟨#[]⟩) (.slice none 0 0) (.slice none 0 0) rfl
              refine bodyPost_ret (v := .agg #[.int .i64 (ind : Int), S key, .int .u8 0, .string ⟨#[]⟩, .slice none 0 0, .slice none 0 0]) (by simp [results, Tryz.results32, go_sem, r0, r1, r2, r3, r4, r5]) rfl ?_
              try rw [hR']
              exact ⟨by rw [← HN.out]; exact o1, _, rfl, by rw [← HN.out]; exact o2⟩
            | cons y2 t2 =>
              obtain ⟨u, hu⟩ : ∃ u, y2 :: t2 = u := ⟨_, rfl⟩
              have hue : List.isEmpty u = false := by rw [← hu]; rfl
              have hun : ¬ u = [] := by rw [← hu]; simp
              rw [hu] at hR4 HRD3 HTL c3 hat
              clear hu
              by_cases h35 : u.head? = some 35
              · have hR' : R = some ⟨ind, key, K.noLeaf⟩ := by rw [← hR4, if_pos (.inr h35)]
                rw [show (u.head? == some 35) = true from by simp [h35]] at hat
                clear hR4
                obtain ⟨k0, k1, k2, k3, k4, k5⟩ := box6 HRD3.out.line
                obtain ⟨z0, z1, z2, z3, z4, z5⟩ := box6 HRD3.out.res
                have f0 := fz6 HRD3.out.res 0
                have f1 := fz6 HRD3.out.res 1
                have f2 := fz6 HRD3.out.res 2
                have f3 := fz6 HRD3.out.res 3
                have f4 := fz6 HRD3.out.res 4
                have f5 := fz6 HRD3.out.res 5
                have hlz := blk_lt HRD3.out.res
                have hlh := blk_lt HRD3.out.line
                go_wp2_with (go_at_call 57; refine hat.mono ?_; rintro e x5 ⟨rfl, rfl⟩)
                obtain ⟨⟨r0, r1, r2, r3, r4, r5⟩, o1, o2⟩ := put6_keep HRD3.out (Txs.nil _ _) (.int .i64 (ind : Int)) (S key) (.int .u8 0) (.string ⟨#[]⟩) (.slice none 0 0) (.slice none 0 0) rfl
                refine bodyPost_ret (v := .agg #[.int .i64 (ind : Int), S key, .int .u8 0, .string ⟨#[]⟩, .slice none 0 0, .slice none 0 0]) (by simp [results, Tryz.results32, go_sem, r0, r1, r2, r3, r4, r5]) rfl ?_
                try rw [hR']
                exact ⟨by rw [← HN.out]; exact o1, _, rfl, by rw [← HN.out]; exact o2⟩
              · rw [if_neg (by rintro (h | h); exact hun h; exact h35 h)] at hR4
                rw [show (u.head? == some 35) = false from by simp [h35]] at hat
                have hval := cu_value x3 (n + 1) u HRD3.out.cur HTL.out HTX3.out (by omega)
                unfold K.readV at hR4
                have HR4 := Lib.hid hR4
                clear hR4
                go_wp2_with (go_at_call 57; refine hat.mono ?_; rintro e x5 ⟨rfl, rfl⟩)
                refine hval.mono ?_
                intro e x5 hQ
                cases hv : K.value u with
                | none =>
                  rw [hv] at hQ
                  obtain ⟨rfl, hgr⟩ := hQ
                  have hR' : R = none := by rw [← HR4.out, hv]
                  go_wp2
                  try rw [hR']
                  exact ⟨rfl, RP.no rfl (by rw [← HN.out]; exact HRD3.out.lows (by omega) hgr)⟩
                | some x =>
                  obtain ⟨⟨kd, tx, li⟩, r⟩ := x
                  rw [hv] at hQ
                  obtain ⟨v, rfl, hm, hrw⟩ := hQ
                  simp only at hm hrw
                  have hR5 : (if K.endOk r = true then some (⟨ind, key, ⟨kd, tx, li⟩⟩ : K.Line) else none) = R := by rw [← HR4.out, hv]
                  have hrd5 := HRD3.out.mv (by omega) (by omega) hm
                  obtain ⟨q1, q2, q3, rfl⟩ : ∃ q1 q2 q3, v = .slice q1 q2 q3 := by
                    rcases hrw.2 with ⟨h, _⟩ | ⟨q, c, _, h, _⟩
                    · exact ⟨_, _, _, h⟩
                    · exact ⟨_, _, _, h⟩
                  have hh3 := blk_lt HRD3.out.line
                  have hg3 := blk_lt HRD3.out.cur
                  have hrl5 : r.length ≤ 1000000 := by have := value_len hv; have := HTL.out; omega
                  obtain ⟨U, hU⟩ : ∃ U, U = (((x5.setCell ⟨h, 2, none⟩ (.int .u8 (kd : Int))).setCell ⟨h, 3, none⟩ (S tx)).setCell ⟨h, 4, none⟩ (.slice q1 q2 q3)).setCell ⟨h, 5, none⟩ (.slice none 0 0) := ⟨_, rfl⟩
                  obtain ⟨hrdU, hgU⟩ := put_line hrd5 (by omega) (by omega) hU
                  have hrowU : Txs x3.heap.size (.slice q1 q2 q3) li U := Txs.kept hrw hgU hh3
                  have HU := Lib.hid hU
                  have HRU := Lib.hid hrdU
                  have HRWU := Lib.hid hrowU
                  have HR5 := Lib.hid hR5
                  obtain ⟨k0, k1, k2, k3, k4, k5⟩ := box6 hrd5.line
                  have g2 := fz6 hrd5.line 2
                  have g3 := fz6 hrd5.line 3
                  have g4 := fz6 hrd5.line 4
                  have g5 := fz6 hrd5.line 5
                  have hl5 := blk_lt hrd5.line
                  have hs6 := cu_spaces U (n + 1) r (by omega) hrdU.cur
                  obtain ⟨bk2, hbk2⟩ : ∃ b, K.blanks r = b := ⟨_, rfl⟩
                  obtain ⟨z, hz⟩ : ∃ z, K.bare r = z := ⟨_, rfl⟩
                  have hend : K.endOk r = (z.isEmpty || (decide (0 < bk2) && (z.head? == some 35))) := by unfold K.endOk; rw [hbk2, hz]
                  rw [hbk2, hz] at hs6
                  have HEND := Lib.hid hend
                  clear hU hrdU hrowU hR5 hrd5 hrw hm hval hat hgU hend hbk2 hz c3 hlc
                  go_wp2_with fail
                  rw [← HU.out]
                  clear k0 k1 k2 k3 k4 k5 g2 g3 g4 g5 hl5
                  refine hs6.mono ?_
                  rintro e x6 ⟨rfl, hm6⟩
                  have HRD6 := Lib.hid (HRU.out.mv (by omega) (by omega) hm6)
                  have HRW6 := Lib.hid (World.ownsRow.mono (base' := n + 1) (show x6.ownsRow x3.heap.size 9 1 _ _ _ from Txs.kept HRWU.out hm6.2 hg3) (by omega))
                  have c6 := HRD6.out.cur.cell
                  have hlc6 := blk_lt HRD6.out.cur
                  have hat6 := cu_at x6 (n + 1) z 35 HRD6.out.cur
                  clear hs6 hm6
                  cases z with
                  | nil =>
                    have hR' : R = some ⟨ind, key, ⟨kd, tx, li⟩⟩ := by rw [← HR5.out, if_pos (by rw [HEND.out]; rfl)]
                    clear hat6
                    go_wp2_with fail
                    refine (unless_yes 15 x6).mono ?_
                    rintro e x7 ⟨rfl, rfl⟩
                    obtain ⟨k0, k1, k2, k3, k4, k5⟩ := box6 HRD6.out.line
                    obtain ⟨z0, z1, z2, z3, z4, z5⟩ := box6 HRD6.out.res
                    have f0 := fz6 HRD6.out.res 0
                    have f1 := fz6 HRD6.out.res 1
                    have f2 := fz6 HRD6.out.res 2
                    have f3 := fz6 HRD6.out.res 3
                    have f4 := fz6 HRD6.out.res 4
                    have f5 := fz6 HRD6.out.res 5
                    have hlz := blk_lt HRD6.out.res
                    have hlh := blk_lt HRD6.out.line
                    go_wp2
                    obtain ⟨⟨r0, r1, r2, r3, r4, r5⟩, o1, o2⟩ := put6_keep HRD6.out (HRW6.out) (.int .i64 (ind : Int)) (S key) (.int .u8 (kd : Int)) (S tx) (.slice q1 q2 q3) (.slice none 0 0) rfl
                    refine bodyPost_ret (v := .agg #[.int .i64 (ind : Int), S key, .int .u8 (kd : Int), S tx, .slice q1 q2 q3, .slice none 0 0]) (by simp [results, Tryz.results32, go_sem, r0, r1, r2, r3, r4, r5]) rfl ?_
                    try rw [hR']
                    exact ⟨by rw [← HN.out]; exact o1, _, rfl, by rw [← HN.out]; exact o2⟩
                  | cons y3 t3 =>
                    obtain ⟨z, hz⟩ : ∃ z, y3 :: t3 = z := ⟨_, rfl⟩
                    have hze : List.isEmpty z = false := by rw [← hz]; rfl
                    rw [hz] at HRD6 c6 hat6 HEND
                    clear hz
                    by_cases hb2 : bk2 = 0
                    · subst hb2
                      have hR' : R = none := by rw [← HR5.out, if_neg (by rw [HEND.out, hze]; simp)]
                      clear hat6
                      go_wp2_with fail
                      refine (unless_no 15 x6).mono ?_
                      rintro e x7 ⟨rfl, rfl⟩
                      go_wp2
                      try rw [hR']
                      exact ⟨rfl, RP.no rfl (by rw [← HN.out]; exact HRD6.out.low)⟩
                    · have hb2' : 0 < bk2 := by omega
                      cases h35' : (z.head? == some 35) with
                      | false =>
                        have hR' : R = none := by rw [← HR5.out, if_neg (by rw [HEND.out, hze, h35']; simp)]
                        rw [h35'] at hat6
                        go_wp2_with (go_at_call 57; refine hat6.mono ?_; rintro e x7 ⟨rfl, rfl⟩)
                        refine (unless_no 15 x6).mono ?_
                        rintro e x7 ⟨rfl, rfl⟩
                        go_wp2
                        try rw [hR']
                        exact ⟨rfl, RP.no rfl (by rw [← HN.out]; exact HRD6.out.low)⟩
                      | true =>
                        have hR' : R = some ⟨ind, key, ⟨kd, tx, li⟩⟩ := by rw [← HR5.out, if_pos (by rw [HEND.out, hze, h35']; simp [hb2'])]
                        rw [h35'] at hat6
                        go_wp2_with (go_at_call 57; refine hat6.mono ?_; rintro e x7 ⟨rfl, rfl⟩)
                        refine (unless_yes 15 x6).mono ?_
                        rintro e x7 ⟨rfl, rfl⟩
                        obtain ⟨k0, k1, k2, k3, k4, k5⟩ := box6 HRD6.out.line
                        obtain ⟨z0, z1, z2, z3, z4, z5⟩ := box6 HRD6.out.res
                        have f0 := fz6 HRD6.out.res 0
                        have f1 := fz6 HRD6.out.res 1
                        have f2 := fz6 HRD6.out.res 2
                        have f3 := fz6 HRD6.out.res 3
                        have f4 := fz6 HRD6.out.res 4
                        have f5 := fz6 HRD6.out.res 5
                        have hlz := blk_lt HRD6.out.res
                        have hlh := blk_lt HRD6.out.line
                        go_wp2
                        obtain ⟨⟨r0, r1, r2, r3, r4, r5⟩, o1, o2⟩ := put6_keep HRD6.out (HRW6.out) (.int .i64 (ind : Int)) (S key) (.int .u8 (kd : Int)) (S tx) (.slice q1 q2 q3) (.slice none 0 0) rfl
                        refine bodyPost_ret (v := .agg #[.int .i64 (ind : Int), S key, .int .u8 (kd : Int), S tx, .slice q1 q2 q3, .slice none 0 0]) (by simp [results, Tryz.results32, go_sem, r0, r1, r2, r3, r4, r5]) rfl ?_
                        try rw [hR']
                        exact ⟨by rw [← HN.out]; exact o1, _, rfl, by rw [← HN.out]; exact o2⟩
      · have hR' : R = none := by
          rw [← HR2.out]
          split
          · rename_i h; injection h with h _; exact absurd h hy
          · rfl
        have hs := cu_sign_bad x1 (n + 1) y 58 t hy HRD1.out.cur
        refine hs.mono ?_
        rintro e x2 ⟨rfl, hm⟩
        go_wp2
        try rw [hR']
        exact ⟨rfl, RP.no rfl (by rw [← HN.out]; exact HRD1.out.lows (by omega) hm.2)⟩
end Go.Proofs.YtegobomfhdfodaaGreatDoor
