/- MESSAGES OF VALUES, READ: the pairs of a map, as data. -/
import Derived.Test.YtnnnnlcpmocnfaaGreatDoorRv4
import Derived.Test.YtnnnnlcpmocnfaaGreatDoorCk6
import Derived.Maps.OwnSet
import Derived.Maps.Views
import Derived.Laws.OwnMore
import Derived.IntWalk
import Derived.Outline
import Derived.WalkLawsBesides
import Derived.Deep.RegionLaw
import Derived.Deep.RegionHeld3
namespace Go.Proofs.YtnnnnlcpmocnfaaGreatDoor
open Go.RowKit
set_option linter.unusedVariables false
set_option linter.unusedSimpArgs false
attribute [local go_sem] run_store_float

open Go.Maps Go.WideMaps
/-- the map D tells where each key stands -/
structure MapIs (D : DataW Unit) (ks : List ByteArray) : Prop where
  has : ∀ (i : Nat) (s : ByteArray), ks[i]? = some s → Maps.has D (.string s.data.toList) = true ∧ D.atKey (.string s.data.toList) (.lit (.int .i64 0)) = .lit (.int .i64 (i : Int))
  no : ∀ s : ByteArray, s ∉ ks → Maps.has D (.string s.data.toList) = false
theorem MapIs.nodup {D : DataW Unit} {ks : List ByteArray} (h : MapIs D ks) {i j : Nat} {s : ByteArray} (hi : ks[i]? = some s) (hj : ks[j]? = some s) : i = j := by
  have e := (h.has i s hi).2.symm.trans (h.has j s hj).2
  injection e with e
  injection e with _ e
  omega
theorem MapIs.nil : MapIs (.map [] : DataW Unit) [] := ⟨fun i s h => by simp at h, fun s _ => rfl⟩
theorem MapIs.snoc {D : DataW Unit} {ks : List ByteArray} {s : ByteArray} (h : MapIs D ks) (hD : IsMap D) (hs : s ∉ ks) : MapIs (D.put (.string s.data.toList) (.lit (.int .i64 (ks.length : Int)))) (ks ++ [s]) := by
  refine ⟨fun i t ht => ?_, fun t ht => ?_⟩
  · rcases Nat.lt_or_ge i ks.length with hi | hi
    · rw [List.getElem?_append_left hi] at ht
      have hne : t ≠ s := fun e => hs (e ▸ List.mem_of_getElem? ht)
      have hl : Lit.string t.data.toList ≠ Lit.string s.data.toList := fun e => hne (bytes_inj (by simpa using e))
      rw [has_put_other hl, atKey_put_other hl]
      exact h.has i t ht
    · rw [List.getElem?_append_right hi] at ht
      have h0 : i - ks.length = 0 := by
        rcases Nat.eq_zero_or_pos (i - ks.length) with h0 | h0
        · exact h0
        · rw [List.getElem?_eq_none (by simp; omega)] at ht; cases ht
      rw [h0] at ht
      injection ht with ht
      subst ht
      rw [has_put_same hD (by simp [WideAt.IsKeyLit]), atKey_put_same hD (by simp [WideAt.IsKeyLit]), show i = ks.length by omega]
      exact ⟨rfl, rfl⟩
  · have h1 : t ∉ ks := fun hm => ht (by simp [hm])
    have h2 : t ≠ s := fun e => ht (by simp [e])
    have hl : Lit.string t.data.toList ≠ Lit.string s.data.toList := fun e => h2 (bytes_inj (by simpa using e))
    rw [has_put_other hl]
    exact h.no t h1
theorem own_block {w w' : World} {b n : Nat} {D : DataW Unit} (h : w.ownsMap Tryz.prog 9 (plainElem (H := Unit) Tryz.prog 3) b n D) (e : w'.heap[b]? = w.heap[b]?) : w'.ownsMap Tryz.prog 9 (plainElem (H := Unit) Tryz.prog 3) b n D := by
  obtain ⟨es, clock, hb, r⟩ := h
  exact ⟨es, clock, e.trans hb, r⟩
theorem own_mono {w : World} {b n m : Nat} {D : DataW Unit} (h : w.ownsMap Tryz.prog 9 (plainElem (H := Unit) Tryz.prog 3) b n D) (e : n ≤ m) : w.ownsMap Tryz.prog 9 (plainElem (H := Unit) Tryz.prog 3) b m D := by
  obtain ⟨es, clock, hb, F, hs, r⟩ := h
  exact ⟨es, clock, hb, F, Nat.le_trans hs e, r⟩
def ky (e : ByteArray × V × Value × Value) : ByteArray := e.1
/-- where readPairs stands behind k parts -/
structure RInv (g : List UInt8 → Except Int V) (ps : List M.Fd) (w : World) (k : Nat) (cur : Value) (es : List (ByteArray × V × Value × Value)) (wr : World) : Prop where
  row : PRow wr (w.heap.size + 1) cur es
  eq : rpairsG g (ps.take k) = .ok (es.map kv)
  len : es.length ≤ k
  map : ∃ D, wr.ownsMap Tryz.prog 9 (plainElem (H := Unit) Tryz.prog 3) w.heap.size k D ∧ MapIs D (es.map ky)
  bel : Below w.heap.size w wr
theorem PRow.key8 {w : World} {base g cap n : Nat} {es : List (ByteArray × V × Value × Value)} (hn : n = es.length) (h : PRow w base (.slice (some ⟨g, 0, none⟩) n cap) es) {k : Nat} {e : ByteArray × V × Value × Value} (he : es[k]? = some e) :
    PRow (w.setCell ⟨g, k * 8, none⟩ (.string e.1)) base (.slice (some ⟨g, 0, none⟩) n cap) es := by
  subst hn
  have s1 := World.ownsRow.stored h.row (k * 8) (.string e.1)
  have hk : ∀ j, Far w base (some g) j → j < w.heap.size → (w.setCell ⟨g, k * 8, none⟩ (.string e.1)).heap[j]? = w.heap[j]? := fun j hj hl => by
    have hne : j ≠ g := fun e => hj.2.1 (by rw [e])
    exact Below.heap_setCell _ _ _ _ hne
  refine ⟨?_, h.key, fun e' he' => (h.rep e' he').keep ⟨by simp [World.setCell], hk⟩ fun j h hl => ⟨h.1, h.2.1, h.2.2.keep (hk j h hl)⟩⟩
  have hx : (es.flatMap pc)[k * 8]? = some (.string e.1) := by
    have := fm_at pc_len es k e he 0 (by omega)
    simpa [pc] using this
  have hset : (es.flatMap pc).set (k * 8) (.string e.1) = es.flatMap pc := by
    obtain ⟨hlt, hv⟩ := List.getElem?_eq_some_iff.1 hx
    rw [← hv]
    exact List.set_getElem_self hlt
  have := s1.1
  rwa [hset] at this
def st8 (w : World) (g k : Nat) (key : ByteArray) (y : V) (r1 r2 : Value) : World :=
  ((((((((w.setCell ⟨g, k * 8, none⟩ (.string key)).setCell ⟨g, k * 8 + 1, none⟩ (.int .u8 y.k)).setCell ⟨g, k * 8 + 2, none⟩ (.string y.s)).setCell ⟨g, k * 8 + 3, none⟩ (.bool y.b)).setCell ⟨g, k * 8 + 4, none⟩ (.int .i64 y.n)).setCell ⟨g, k * 8 + 5, none⟩ (.float .f64 y.f)).setCell ⟨g, k * 8 + 6, none⟩ r1).setCell ⟨g, k * 8 + 7, none⟩ r2)
theorem st8_far {w : World} {g k : Nat} {key : ByteArray} {y : V} {r1 r2 : Value} {j : Nat} (hne : j ≠ g) : (st8 w g k key y r1 r2).heap[j]? = w.heap[j]? := by
  unfold st8
  exact (Below.heap_setCell _ _ _ _ hne).trans ((Below.heap_setCell _ _ _ _ hne).trans ((Below.heap_setCell _ _ _ _ hne).trans ((Below.heap_setCell _ _ _ _ hne).trans ((Below.heap_setCell _ _ _ _ hne).trans ((Below.heap_setCell _ _ _ _ hne).trans ((Below.heap_setCell _ _ _ _ hne).trans (Below.heap_setCell _ _ _ _ hne)))))))
theorem st8_size {w : World} {g k : Nat} {key : ByteArray} {y : V} {r1 r2 : Value} : (st8 w g k key y r1 r2).heap.size = w.heap.size := by unfold st8; simp [World.setCell]
theorem st8_below {w W : World} {B g k : Nat} {key : ByteArray} {y : V} {r1 r2 : Value} (h : Below B w W) (hB : B ≤ g) : Below B w (st8 W g k key y r1 r2) := by
  unfold st8
  exact (((((((h.setCell hB _).setCell hB _).setCell hB _).setCell hB _).setCell hB _).setCell hB _).setCell hB _).setCell hB _
/-- a pair stored over another one of its key -/
theorem PRow.store8 {w : World} {base g cap n : Nat} {es : List (ByteArray × V × Value × Value)} (hn : n = es.length) (h : PRow w base (.slice (some ⟨g, 0, none⟩) n cap) es) {k : Nat} {e : ByteArray × V × Value × Value} (he : es[k]? = some e) {y : V} {r1 r2 : Value} (hy : Rep (Far w base (some g)) w r1 r2 y) :
    PRow (st8 w g k e.1 y r1 r2) base (.slice (some ⟨g, 0, none⟩) n cap) (es.set k (e.1, y, r1, r2)) := by
  have h1 := PRow.key8 hn h he
  have hk : ∀ j, Far w base (some g) j → j < w.heap.size → (w.setCell ⟨g, k * 8, none⟩ (.string e.1)).heap[j]? = w.heap[j]? := fun j hj hl => by
    have hne : j ≠ g := fun e => hj.2.1 (by rw [e])
    exact Below.heap_setCell _ _ _ _ hne
  exact PRow.store hn h1 he (hy.keep ⟨by simp [World.setCell], hk⟩ fun j h hl => ⟨h.1, h.2.1, h.2.2.keep (hk j h hl)⟩)
theorem ky_set {es : List (ByteArray × V × Value × Value)} {k : Nat} {e : ByteArray × V × Value × Value} (he : es[k]? = some e) (y : V) (r1 r2 : Value) : (es.set k (e.1, y, r1, r2)).map ky = es.map ky := by
  rw [List.map_set]
  have hx : (es.map ky)[k]? = some e.1 := by rw [List.getElem?_map, he]; rfl
  obtain ⟨hlt, hv⟩ := List.getElem?_eq_some_iff.1 hx
  show (es.map ky).set k e.1 = _
  rw [← hv]
  exact List.set_getElem_self hlt
theorem ky_kv (es : List (ByteArray × V × Value × Value)) : es.map ky = (es.map kv).map (·.1) := by rw [List.map_map]; rfl
/-- a round that finds its key -/
theorem rinv_set {g : List UInt8 → Except Int V} {ps : List M.Fd} {w wr W : World} {k i n gg cap : Nat} {es : List (ByteArray × V × Value × Value)} {e : ByteArray × V × Value × Value} {f : M.Fd} {x : V} {r1 r2 : Value}
    (hn : n = es.length) (h : RInv g ps w k (.slice (some ⟨gg, 0, none⟩) n cap) es wr) (hW : Below wr.heap.size wr W) (hf : ps[k]? = some f) (hg : rpairG g f.s = .ok (e.1, x)) (he : es[i]? = some e) (hr : Rep (New wr.heap.size W) W r1 r2 x) :
    RInv g ps w (k + 1) (.slice (some ⟨gg, 0, none⟩) n cap) (es.set i (e.1, x, r1, r2)) (st8 W gg i e.1 x r1 r2) := by
  obtain ⟨D, hown, hD⟩ := h.map
  have hrow := h.row.under hW
  have hgg := h.row.lt gg rfl
  have hs := h.bel.size
  refine ⟨?_, ?_, ?_, ⟨D, own_mono (own_block hown ?_) (Nat.le_succ k), ?_⟩, ?_⟩
  · exact PRow.store8 hn hrow he (hr.keep (Kept.of_below (Below.refl _ _) _) fun j hj _ => ⟨by have := hj.1; omega, (fun e => by injection e with e; have := hj.1; omega), hj.2⟩)
  · rw [take_get hf, rpairsG_snoc, h.eq]
    dsimp only
    rw [hg]
    dsimp only
    have hkv : (es.map kv)[i]? = some (kv e) := by rw [List.getElem?_map, he]; rfl
    show Except.ok (putIn (es.map kv) (kv e).1 x) = _
    rw [putIn_at (v := x) hkv rfl (fun j b hj hb hbe => by
      rw [List.getElem?_map] at hb
      cases hj2 : es[j]? with
      | none => rw [hj2] at hb; cases hb
      | some e2 =>
        rw [hj2] at hb
        injection hb with hb
        subst hb
        have h1 : (es.map ky)[j]? = some e.1 := by rw [List.getElem?_map, hj2]; exact congrArg some hbe
        have h2 : (es.map ky)[i]? = some e.1 := by rw [List.getElem?_map, he]; rfl
        have := hD.nodup h1 h2
        omega), kv_set]
    rfl
  · rw [List.length_set]; have := h.len; omega
  · exact (st8_far (by omega)).trans (hW.block _ hown.lt)
  · rw [ky_set he]; exact hD
  · exact st8_below (h.bel.trans (hW.mono hs)) (by omega)
/-- a round that appends -/
theorem rinv_app {g : List UInt8 → Except Int V} {ps : List M.Fd} {w wr W w3 w4 : World} {k : Nat} {cur v4 : Value} {es : List (ByteArray × V × Value × Value)} {key : ByteArray} {f : M.Fd} {x : V} {r1 r2 : Value} {D : DataW Unit}
    (h : RInv g ps w k cur es wr) (hW : Below wr.heap.size wr W) (hD : MapIs D (es.map ky)) (hmap : IsMap D) (hf : ps[k]? = some f) (hg : rpairG g f.s = .ok (key, x)) (hno : key ∉ es.map ky)
    (hown3 : w3.ownsMap Tryz.prog 9 (plainElem (H := Unit) Tryz.prog 3) w.heap.size (k + 1) (D.put (.string key.data.toList) (.lit (.int .i64 (es.length : Int))))) (hg3 : W.grownBy w3 (some w.heap.size))
    (hrow4 : PRow w4 (w.heap.size + 1) v4 (es ++ [(key, x, r1, r2)])) (hg4 : Grew w3 cur w4 v4) : RInv g ps w (k + 1) v4 (es ++ [(key, x, r1, r2)]) w4 := by
  have hs := h.bel.size
  have hB : Below w.heap.size w W := h.bel.trans (hW.mono hs)
  have hB3 : Below w.heap.size w w3 := hB.grown hg3 hB.size (fun j hj => by injection hj with hj; omega)
  refine ⟨hrow4, ?_, ?_, ⟨_, own_block hown3 (hg4.g.block _ hown3.lt (fun e => ?_)), ?_⟩, ?_⟩
  · rw [take_get hf, rpairsG_snoc, h.eq]
    dsimp only
    rw [hg]
    dsimp only
    rw [putIn_no (fun j b hb hbe => hno (by
      rw [ky_kv]
      exact List.mem_map.2 ⟨b, List.mem_of_getElem? hb, hbe⟩)), List.map_append]
    rfl
  · rw [List.length_append]; have := h.len; simp; omega
  · have := (h.row.lt _ e.symm).1; omega
  · have := hD.snoc hmap hno
    rw [List.length_map] at this
    rw [List.map_append]
    exact this
  · exact hB3.trans (hg4.below hB3.size (fun j hj => by have := (h.row.lt j hj).1; omega))
end Go.Proofs.YtnnnnlcpmocnfaaGreatDoor

/- MESSAGES OF VALUES, READ: the pairs of a map, WALKED. -/
namespace Go.Proofs.YtnnnnlcpmocnfaaGreatDoor
open Go.RowKit
set_option linter.unusedVariables false
set_option linter.unusedSimpArgs false
attribute [local go_sem] run_store_float

open Go.Maps Go.WideMaps
def RPairsP (r : Except Int (List (ByteArray × V))) (w : World) (e : Ending) (w' : World) : Prop :=
  match r with
  | .error c => e = pan31 c ∧ Below w.heap.size w w'
  | .ok l => ∃ v es, e = .returned v ∧ PRow w' w.heap.size v es ∧ es.map kv = l ∧ es.length ≤ 256 ∧ Below w.heap.size w w'
theorem wf_nat (n : Nat) (h : n ≤ 1000) : (Lit.int .i64 (n : Int)).wf = true := by
  simp [Lit.wf, IntKind.min, IntKind.max, IntKind.signed, IntKind.bits]
  omega
theorem rep_grown {w w' : World} {B b0 : Nat} {q1 q2 : Value} {x : V} (h : Rep (New B w) w q1 q2 x) (hg : w.grownBy w' (some b0)) (hb : b0 < B) : Rep (New B w') w' q1 q2 x := by
  have hk : ∀ g, New B w g → g < w.heap.size → w'.heap[g]? = w.heap[g]? := fun g hn hl => hg.block g hl (fun e => by injection e with e; have := hn.1; omega)
  exact h.keep ⟨hg.size, hk⟩ fun g hn hl => ⟨hn.1, hn.2.keep (hk g hn hl)⟩
theorem rep_below {w w' : World} {B : Nat} {q1 q2 : Value} {x : V} (h : Rep (New B w) w q1 q2 x) (hb : Below w.heap.size w w') : Rep (New B w') w' q1 q2 x :=
  h.keep (Kept.of_below hb _) fun g hn hl => ⟨hn.1, hn.2.keep (hb.block g hl)⟩
theorem pv_eq (key : ByteArray) (x : V) (r1 r2 : Value) : (pv key x r1 r2).toList = pc (key, x, r1, r2) := rfl

set_option maxRecDepth 100000 in
set_option maxHeartbeats 4000000 in
theorem rpairs_all (n : Nat) (ih : ReadPC n) (ps : List M.Fd) (ad : Option Addr) (cap m : Nat) (hm : m = ps.length) (hm2 : m ≤ 256) (w : World) (hT : Tabs w) (hfl : Flds w w.heap.size ad ps) (hps : ∀ f ∈ ps, f.s.length ≤ 65536) (d : Int) (hd : d = 8 - (n : Int)) :
    Calls Tryz.prog 62 #[.slice ad m cap, .int .i64 d] w (RPairsP (rpairsG (rmsg n) ps) w) := by
  have hmm := @run_makeMap Tryz.prog
  have Ih := Lib.hid (show ∀ (s : List UInt8) (w : World), Tabs w → s.length ≤ 9223372036854775807 → Calls Tryz.prog 31 #[.string ⟨s.toArray⟩, .int .i64 d] w (RPairP (rpairG (rmsg n) s) w) by rw [hd]; exact ih)
  have Hm := Lib.hid hm
  have HT := Lib.hid hT
  have Hfl := Lib.hid hfl
  have Hps := Lib.hid hps
  clear ih hm hT hfl hps hd
  go_enter Tryz.func62, Tryz.ntmps62
  go_wp2
  clear hmm
  go_loopw [5, 15] (fun cur i wr => ∃ (k : Nat) (es : List (ByteArray × V × Value × Value)), i = .int .i64 (k : Int) ∧ k ≤ m ∧ Go.RowKit.Hid (RInv (rmsg n) ps w k cur es wr)) (fun _ i _ => m - (intOf i).toNat)
  case atStart => exact ⟨0, [], rfl, by omega, ⟨PRow.nil _ _, rfl, by simp, ⟨_, World.ownsMap_made _ _ _ _, MapIs.nil⟩, al w _⟩⟩
  case round =>
    obtain ⟨k, es, rfl, hk, hinv⟩ := hrel
    have Hinv := Lib.hid hinv.out
    clear hinv
    by_cases hlt : k < m
    · obtain ⟨fk, hfk⟩ := get_at' (l := ps) (k := k) (by rw [← Hm.out]; exact hlt)
      have hne : ps ≠ [] := by rintro rfl; simp at hfk
      obtain ⟨gp, off, rfl, hgp, hi⟩ := (Hfl.out.keep Hinv.out.bel).2 hne
      obtain ⟨pa, pb, pc', pl, hfit, ⟨q0, q1, q2, q3⟩⟩ := hi k fk hfk
      have hk0 : (0 : Int) ≤ (k : Int) := by omega
      have hkn : (k : Int) < (m : Int) := by omega
      have hpl : fk.s = pl := by rw [hfit.e]
      have hplen : pl.length ≤ 65536 := by rw [← hpl]; exact Hps.out fk (List.mem_of_getElem? hfk)
      have Hfk := Lib.hid hfk
      have Hpl := Lib.hid hpl
      obtain ⟨W1, hW1⟩ : ∃ W1, W1 = wr.alloc (.cells (fcells pa pb pc' pl) 73) := ⟨_, rfl⟩
      have hBW1 : Below wr.heap.size wr W1 := by rw [hW1]; exact al _ _
      obtain ⟨z0, z1, z2, z3⟩ := box4 (show W1.heap[wr.heap.size]? = some (.cells (fcells pa pb pc' pl) 73 (0, 0)) by rw [hW1]; exact blk_new wr _)
      have HBW1 := Lib.hid hBW1
      have Hbel1 := Lib.hid (Hinv.out.bel.trans (hBW1.mono Hinv.out.bel.size))
      have HW1 := Lib.hid hW1
      have Hcall := Lib.hid (Ih.out pl W1 (HT.out.under Hbel1.out) (by omega))
      have Hk256 := Lib.hid (show es.length ≤ 256 by have := Hinv.out.len; omega)
      clear hW1 hBW1 hfk hpl hplen hfit hi hne hgp
      cases hm2' : rpairG (rmsg n) pl with
      | error cc =>
        rw [hm2'] at Hcall
        have HRc := Lib.hid (show rpairsG (rmsg n) ps = .error cc by
          have h1 : rpairsG (rmsg n) (ps.take k ++ [fk]) = .error cc := by rw [rpairsG_snoc, Hinv.out.eq]; dsimp only; rw [Hpl.out, hm2']
          have h2 := rpairsG_err h1 (ps.drop (k + 1))
          rw [cut_snoc Hfk.out, h2])
        clear hm2'
        go_wp2_with fail
        rw [← HW1.out]
        refine (Hcall.out).mono ?_
        rintro e w2 ⟨rfl, hb2⟩
        exact ⟨rfl, by rw [HRc.out]; exact ⟨rfl, Hbel1.out.trans (hb2.mono Hbel1.out.size)⟩⟩
      | ok kx =>
        obtain ⟨key, x⟩ := kx
        rw [hm2'] at Hcall
        have Hok := Lib.hid (show rpairG (rmsg n) fk.s = .ok (key, x) by rw [Hpl.out]; exact hm2')
        clear hm2'
        obtain ⟨D, hown, hD⟩ := Hinv.out.map
        have Hown := Lib.hid hown
        have HD := Lib.hid hD
        have Hmap := Lib.hid hown.isMap
        clear hown hD
        by_cases hin : key ∈ es.map ky
        · obtain ⟨i, hi⟩ := List.getElem?_of_mem hin
          obtain ⟨e, he, hek⟩ : ∃ e, es[i]? = some e ∧ e.1 = key := by
            rw [List.getElem?_map] at hi
            cases h : es[i]? with
            | none => rw [h] at hi; cases hi
            | some e => rw [h] at hi; injection hi with hi; exact ⟨e, rfl, hi⟩
          have Hhas := Lib.hid (HD.out.has i key hi)
          have hil : i < es.length := lt_of_get he
          obtain ⟨gg, cap', rfl, hgb, hgl⟩ := Hinv.out.row.own (List.ne_nil_of_mem (List.mem_of_getElem? he))
          obtain ⟨n1, hn1⟩ : ∃ n1, n1 = es.length := ⟨_, rfl⟩
          rw [← hn1] at Hinv hil Hk256 ⊢
          have Hn1 := Lib.hid hn1
          have He := Lib.hid he
          have Hek := Lib.hid hek
          have Hgb := Lib.hid hgb
          have Hgl := Lib.hid hgl
          clear hin hi he hek hgb hgl hn1
          have hi0 : (0 : Int) ≤ (i : Int) := by omega
          have hin1 : (i : Int) < (n1 : Int) := by omega
          clear hil
          go_wp2_with fail
          rw [← HW1.out]
          refine (Hcall.out).mono ?_
          rintro e' w2 ⟨hks, r1, r2, rfl, hr2, hb2⟩
          obtain ⟨u1, v1, rfl, _⟩ := hr2.parts.2.1.form
          obtain ⟨u2, v2, rfl, _⟩ := hr2.parts.2.2.form
          obtain ⟨W, hW⟩ : ∃ W, W = w2.alloc (.cells (pv key x (.slice u1 x.l.length v1) (.slice u2 x.p.length v2)) 29) := ⟨_, rfl⟩
          have h2W : Below w2.heap.size w2 W := by rw [hW]; exact al _ _
          have hrW : Below wr.heap.size wr W := HBW1.out.trans ((hb2.trans (h2W.mono hb2.size)).mono HBW1.out.size)
          have hA : At8 W w2.heap.size 0 key x (.slice u1 x.l.length v1) (.slice u2 x.p.length v2) := At8.box (t := 29) (by rw [hW]; exact blk_new w2 _)
          have HA := Lib.hid hA
          have HW := Lib.hid hW
          have HrW := Lib.hid hrW
          have HownW := Lib.hid (own_block Hown.out (hrW.block _ Hown.out.lt))
          have Hkey := Lib.hid (keyOf_string_mk (s := key) Tryz.underlying9 (by unfold maxLen; exact Nat.le_trans hks (by decide)))
          have Hr := Lib.hid (show Rep (New wr.heap.size W) W (.slice u1 x.l.length v1) (.slice u2 x.p.length v2) x from (rep_below hr2 h2W).keep (Kept.of_below (Below.refl _ _) _) fun j hj _ => ⟨Nat.le_trans HBW1.out.size hj.1, hj.2⟩)
          have hcell : ∀ j u, j < 8 → (pc e)[j]? = some u → W.cell? ⟨gg, i * 8 + j, none⟩ = some u := fun j u hj hu => by
            have hrow := Hinv.out.row.under hrW
            have := World.ownsRow.cells hrow.row (g := gg) rfl (i * 8 + j) u (by rw [fm_at pc_len es i e He.out j hj]; exact hu)
            rwa [show (⟨gg, 0, none⟩ : Addr).add (i * 8 + j) = ⟨gg, i * 8 + j, none⟩ by unfold Addr.add; split <;> simp_all] at this
          have hfree : ∀ j, W.frozen? ⟨gg, j, none⟩ = false := fun j => World.ownsRow.frozenAt (by have := (Hinv.out.row.under hrW).row; rw [← Hn1.out] at this; exact this) j
          have d0 : W.cell? ⟨gg, i * 8, none⟩ = some (.string e.1) := hcell 0 _ (by omega) rfl
          have d1 := hcell 1 _ (by omega) rfl
          have d2 := hcell 2 _ (by omega) rfl
          have d3 := hcell 3 _ (by omega) rfl
          have d4 := hcell 4 _ (by omega) rfl
          have d5 := hcell 5 _ (by omega) rfl
          have d6 := hcell 6 _ (by omega) rfl
          have d7 := hcell 7 _ (by omega) rfl
          have f0 := hfree (i * 8)
          have f1 := hfree (i * 8 + 1)
          have f2 := hfree (i * 8 + 2)
          have f3 := hfree (i * 8 + 3)
          have f4 := hfree (i * 8 + 4)
          have f5 := hfree (i * 8 + 5)
          have f6 := hfree (i * 8 + 6)
          have f7 := hfree (i * 8 + 7)
          obtain ⟨a0, a1, a2, a3, a4, a5, a6, a7⟩ := hA
          simp only [Nat.zero_add] at a0 a1 a2 a3 a4 a5 a6 a7
          have Hnext := Lib.hid (rinv_set Hn1.out Hinv.out hrW Hfk.out (show rpairG (rmsg n) fk.s = .ok (e.1, x) by rw [Hek.out]; exact Hok.out) He.out Hr.out)
          rw [Hek.out] at Hnext
          clear hcell hfree hrW h2W hW hr2 hb2 hks z0 z1 z2 z3 q0 q1 q2 q3
          go_wp2_with (at_lookup; rw [← HW.out]; refine wpList_lookup_own_ok_int _ rfl _ _ 112 rfl 9 3 .i64 Tryz.law9 Tryz.underlying112 Tryz.underlying3 (Tryz.zero3 _) w.heap.size k D rfl HownW.out _ _ rfl Hkey.out ?_)
          intro c hc _
          rw [Hhas.out.1]
          rw [Hhas.out.2] at hc
          obtain rfl : (i : Int) = c := by injection hc with hc; injection hc with _ hc
          clear hc
          go_wp2
          go_roundw
          case rel => exact ⟨k + 1, _, by go_num, by omega, Hnext.out⟩
          case measure => simp [intOf]; omega
        · have Hhas := Lib.hid (HD.out.no key hin)
          have Hno := Lib.hid hin
          obtain ⟨adc, capc, hcur⟩ := Hinv.out.row.form
          subst hcur
          obtain ⟨n1, hn1⟩ : ∃ n1, n1 = es.length := ⟨_, rfl⟩
          have Hn1 := Lib.hid hn1
          rw [← hn1] at Hinv Hk256 ⊢
          clear hin hn1
          have Hb63 := Lib.hid (show k < maxLen by unfold maxLen; omega)
          go_wp2_with fail
          rw [← HW1.out]
          refine (Hcall.out).mono ?_
          rintro e' w2 ⟨hks, r1, r2, rfl, hr2, hb2⟩
          obtain ⟨u1, v1, rfl, _⟩ := hr2.parts.2.1.form
          obtain ⟨u2, v2, rfl, _⟩ := hr2.parts.2.2.form
          obtain ⟨W, hW⟩ : ∃ W, W = w2.alloc (.cells (pv key x (.slice u1 x.l.length v1) (.slice u2 x.p.length v2)) 29) := ⟨_, rfl⟩
          have h2W : Below w2.heap.size w2 W := by rw [hW]; exact al _ _
          have hrW : Below wr.heap.size wr W := HBW1.out.trans ((hb2.trans (h2W.mono hb2.size)).mono HBW1.out.size)
          have hA : At8 W w2.heap.size 0 key x (.slice u1 x.l.length v1) (.slice u2 x.p.length v2) := At8.box (t := 29) (by rw [hW]; exact blk_new w2 _)
          have HA := Lib.hid hA
          have HW := Lib.hid hW
          have HrW := Lib.hid hrW
          have HownW := Lib.hid (own_block Hown.out (hrW.block _ Hown.out.lt))
          have Hkey := Lib.hid (keyOf_string_mk (s := key) Tryz.underlying9 (by unfold maxLen; exact Nat.le_trans hks (by decide)))
          have Hks := Lib.hid hks
          have Hr := Lib.hid (show Rep (New W1.heap.size W) W (.slice u1 x.l.length v1) (.slice u2 x.p.length v2) x from rep_below hr2 h2W)
          have Hlt := Lib.hid (show w2.heap.size < W.heap.size by rw [hW]; simp)
          have Hs2 := Lib.hid (show wr.heap.size ≤ w2.heap.size from Nat.le_trans HBW1.out.size hb2.size)
          have HsB := Lib.hid (show w.heap.size < wr.heap.size from Hown.out.lt)
          obtain ⟨a0, a1, a2, a3, a4, a5, a6, a7⟩ := hA
          simp only [Nat.zero_add] at a0 a1 a2 a3 a4 a5 a6 a7
          clear hrW h2W hW hr2 hb2 hks z0 z1 z2 z3 q0 q1 q2 q3
          go_wp2_with (at_lookup; rw [← HW.out]; refine wpList_lookup_own_ok_int _ rfl _ _ 112 rfl 9 3 .i64 Tryz.law9 Tryz.underlying112 Tryz.underlying3 (Tryz.zero3 _) w.heap.size k D rfl HownW.out _ _ rfl Hkey.out ?_)
          intro c hc _
          rw [Hhas.out]
          clear hc
          go_wp2_with (at_mapUpdate; refine wpList_mapUpdate_own _ rfl _ _ _ 112 rfl 9 3 Tryz.law9 Tryz.underlying112 _ w.heap.size k _ rfl HownW.out Hb63.out _ _ _ rfl rfl Hkey.out _ [] (plainElem_int (a := (n1 : Int)) Tryz.underlying3 (wf_nat n1 (by have := Hk256.out; omega))) ?_)
          intro w3 hown3 hgrow3
          have hA3 := HA.out.keep (hgrow3.block w2.heap.size Hlt.out (fun e => by injection e with e; have := Hs2.out; have := HsB.out; omega))
          have Hrow3 := Lib.hid ((Hinv.out.row.under HrW.out).keep (fun g hg hl => hgrow3.block g hl (fun e => by injection e with e; omega)) hgrow3.size)
          have Hr3 := Lib.hid (rep_grown Hr.out hgrow3 (by have := HsB.out; have := HBW1.out.size; omega))
          have Hown3 := Lib.hid hown3
          have Hgrow3 := Lib.hid hgrow3
          have Hbase3 := Lib.hid (show w.heap.size + 1 ≤ w3.heap.size by have := hgrow3.size; have := HrW.out.size; have := HsB.out; omega)
          clear a0 a1 a2 a3 a4 a5 a6 a7 hown3 hgrow3
          obtain ⟨a0, a1, a2, a3, a4, a5, a6, a7⟩ := hA3
          simp only [Nat.zero_add] at a0 a1 a2 a3 a4 a5 a6 a7
          go_wp2_with (at_builtin; refine wp_app_p rfl _ _ rfl (w.heap.size + 1) _ es rfl Hrow3.out key x (.slice u1 x.l.length v1) (.slice u2 x.p.length v2) _ rfl Hks.out (Hr3.out.keep (Kept.of_below (Below.refl _ _) _) fun j hj _ => ⟨by have h1 := hj.1; have := HBW1.out.size; have := HsB.out; omega, (fun e => by have h1 := (Hinv.out.row.lt j e).2; have h2 := hj.1; have := HBW1.out.size; omega), hj.2⟩) _ rfl rfl (by have := Hk256.out; have := Hn1.out; omega) Hbase3.out ?_)
          intro v4 w4 hrow4 hgr4
          have Hnext := Lib.hid (rinv_app Hinv.out HrW.out HD.out Hmap.out Hfk.out Hok.out Hno.out (by rw [← Hn1.out]; exact Hown3.out) Hgrow3.out hrow4 hgr4)
          clear hrow4 hgr4 a0 a1 a2 a3 a4 a5 a6 a7
          go_wp2
          go_roundw
          case rel => exact ⟨k + 1, _, by go_num, by omega, Hnext.out⟩
          case measure => simp [intOf]; omega
    · have HRk := Lib.hid (show rpairsG (rmsg n) ps = .ok (es.map kv) by
        have h := Hinv.out.eq
        rw [List.take_of_length_le (by have := Hm.out; omega)] at h
        exact h)
      have Hk256 := Lib.hid (show es.length ≤ 256 by have := Hinv.out.len; omega)
      go_wp2
      go_ret
      rw [HRk.out]
      exact ⟨_, es, rfl, Hinv.out.row.mono (Nat.le_succ _), rfl, Hk256.out, Hinv.out.bel⟩
end Go.Proofs.YtnnnnlcpmocnfaaGreatDoor
