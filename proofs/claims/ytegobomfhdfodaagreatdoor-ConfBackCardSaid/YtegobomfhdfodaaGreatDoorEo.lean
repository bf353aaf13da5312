/- CONF: ARGUMENTS THAT ARE NODES, OPENED TO THEIR DATA. -/
import Derived.Test.YtegobomfhdfodaaGreatDoorEb
import Derived.ProofKit
import Derived.OpenShut
import Derived.ShutString
import Derived.LaidMore
import Derived.SizedLaws
import Derived.Deep.Slices
import Derived.Deep.Fields
import Derived.ChangeSame
import Derived.Lib.SmallJoins
namespace Go.Proofs.YtegobomfhdfodaaGreatDoor
open Go.RowKit Go.ChangeShapes Go.WideShapes Go.Deep
set_option linter.unusedVariables false
set_option linter.unusedSimpArgs false
set_option maxRecDepth 100000

theorem pick_list {α : Type} {P : Nat → α → Prop} : ∀ n, (∀ i, i < n → ∃ x, P i x) → ∃ l : List α, l.length = n ∧ ∀ i x, l[i]? = some x → P i x
  | 0, _ => ⟨[], rfl, fun i x h => by simp at h⟩
  | n + 1, h => by
    obtain ⟨l, hl, hi⟩ := pick_list n (fun i hi => h i (by omega))
    obtain ⟨x, hx⟩ := h n (by omega)
    refine ⟨l ++ [x], by simp [hl], fun i y hy => ?_⟩
    rw [List.getElem?_append] at hy
    split at hy
    · exact hi i y hy
    · rename_i h1
      have : i = n := by
        have := (List.getElem?_eq_some_iff.1 hy).1
        simp at this
        omega
      subst this
      simp [hl] at hy
      subst hy
      exact hx
section
variable {P : Program} {H : Type} {enc : TypeId × Value → H} {w : World} {base : Nat} {spare : Nat → Bool} {held : Bool}
/-- no part of the datum is beyond the form's reach -/
def Lit1 (P : Program) (t : TypeId) (d : DataW H) : Prop := ∀ k ∈ d.weights P t, k ≤ reachBytes
theorem Lit1.all {e : TypeId} : ∀ {ds : List (DataW H)}, (∀ k ∈ DataW.weightsAll P e ds, k ≤ reachBytes) → ∀ d ∈ ds, Lit1 P e d
  | [], _, d, hd => by cases hd
  | x :: r, h, d, hd => by
    rw [DataW.weightsAll] at h
    rcases List.mem_cons.1 hd with q | hd
    · rw [q]; exact fun k hk => h k (List.mem_append_left _ hk)
    · exact Lit1.all (fun k hk => h k (List.mem_append_right _ hk)) d hd
theorem Lit1.each : ∀ {ts : List TypeId} {ds : List (DataW H)}, (∀ k ∈ DataW.weightsEach P ts ds, k ≤ reachBytes) → ∀ (i : Nat) t d, ts[i]? = some t → ds[i]? = some d → Lit1 P t d
  | [], _, _, i, t, d, ht, _ => by simp at ht
  | _ :: _, [], _, i, t, d, _, hd => by simp at hd
  | t0 :: ts, d0 :: ds, h, i, t, d, ht, hd => by
    rw [DataW.weightsEach] at h
    cases i with
    | zero =>
      simp only [List.getElem?_cons_zero, Option.some.injEq] at ht hd
      rw [← ht, ← hd]
      exact fun k hk => h k (List.mem_append_left _ hk)
    | succ i => exact Lit1.each (fun k hk => h k (List.mem_append_right _ hk)) i t d (by simpa using ht) (by simpa using hd)
theorem Lit1.slice {t e : TypeId} (ht : P.underlying t = some (.slice e)) {a b : List (DataW H)} (h : Lit1 P t (.slice a b)) : (a.length + b.length) * P.bytesOf e ≤ reachBytes ∧ ∀ d ∈ a, Lit1 P e d := by
  unfold Lit1 at h
  simp only [DataW.weights, ht] at h
  exact ⟨h _ (List.mem_cons_self ..), Lit1.all fun k hk => h k (List.mem_cons_of_mem _ (List.mem_append_left _ hk))⟩
theorem Lit1.struct {t : TypeId} {fs : Array Field} (ht : P.underlying t = some (.struct fs)) {a : List (DataW H)} (h : Lit1 P t (.agg a)) (i : Nat) (u : TypeId) (d : DataW H) (hu : (fs.toList.map (·.type))[i]? = some u) (hd : a[i]? = some d) : Lit1 P u d := by
  unfold Lit1 at h
  simp only [DataW.weights, ht] at h
  exact Lit1.each h i u d hu hd
theorem Lit1.string {t : TypeId} {l : List UInt8} (h : Lit1 P t (.lit (.string l) : DataW H)) : l.length ≤ 140737488351232 := h l.length (by simp [DataW.weights])
/-- a slice's elements, whatever they are -/
theorem open_elems {t e : TypeId} {fuel : Nat} {cs : List Value} {x : DataW H × List MemPlace} (ht : P.underlying t = some (.slice e)) (n : Nat) (hn : P.cellsOf e = n) (hpos : 0 < n) (hx : Lit1 P t x.1)
    (h : DataW.trod enc P w base spare held fuel t cs = some x) :
    ∃ (q : Value) (g o len : Nat), cs = [q] ∧ Sl Any w q g o len ∧ len * P.bytesOf e ≤ 140737488351232 ∧ ∀ i, i < len → ∃ m cs' y, m < fuel ∧ cs'.length = n ∧ Lit1 P e y.1 ∧ DataW.trod enc P w base spare held m e cs' = some y ∧ ∀ j, j < n → w.cell? ⟨g, o + i * n + j, none⟩ = cs'[j]? := by
  rcases DataW.trod_slice ht h with ⟨hcs, _⟩ | ⟨a, len, cap, elems, rest, m, hfu, hcs, hxe, _, hl, hm, hlen, hel, _, _⟩
  · exact ⟨_, 0, 0, 0, hcs, ⟨none, 0, rfl, by simp, fun h => absurd h (by simp)⟩, by simp, fun i hi => absurd hi (by simp)⟩
  · rw [hxe] at hx
    obtain ⟨hw1, hw2⟩ := Lit1.slice ht hx
    simp only [List.length_map, reachBytes] at hw1
    have hw3 : len * P.bytesOf e ≤ 140737488351232 := by
      have : elems.length * P.bytesOf e ≤ (elems.length + rest.length) * P.bytesOf e := Nat.mul_le_mul_right _ (by omega)
      rw [← hlen]; omega
    rw [hn] at hel
    have hP : ∀ i, i < len → ∃ cs' y, w.cells? base (a.add (i * n)) n = some cs' ∧ Lit1 P e y.1 ∧ DataW.trod enc P w base spare held m e cs' = some y := by
      intro i hi
      have h1 := hel i hi
      have h2 : elems[i]? = some (elems[i]'(by omega)) := by simp
      rw [h2, Option.bind_eq_some_iff] at h1
      obtain ⟨cs', h3, h4⟩ := h1
      exact ⟨cs', _, h3, hw2 _ (List.mem_map.2 ⟨_, List.mem_of_getElem? h2, rfl⟩), h4⟩
    by_cases h0 : len = 0
    · subst h0
      exact ⟨_, 0, 0, 0, hcs, ⟨some a, cap, rfl, by have hm' : cap ≤ 9223372036854775807 := hm; omega, fun h => absurd h (by simp)⟩, by simp, fun i hi => absurd hi (by simp)⟩
    obtain ⟨b, off, spot⟩ := a
    have hs : spot = none ∧ b < w.heap.size := by
      obtain ⟨cs', y, hc, _⟩ := hP 0 (by omega)
      obtain ⟨_, hlc, hcell⟩ := World.cells?_some hc
      have hc0 := hcell 0 (by omega)
      have he : cs'[0]? = some (cs'[0]'(by omega)) := by simp
      rw [he] at hc0
      have hsp : spot = none := by simpa [Addr.add] using World.cell?_spot hc0
      subst hsp
      simp only [Addr.add_lit] at hc0
      exact ⟨rfl, World.block_lt_of_cell? w _ hc0⟩
    obtain ⟨rfl, hb⟩ := hs
    refine ⟨_, b, off, len, hcs, ⟨_, cap, rfl, by have hm' : cap ≤ 9223372036854775807 := hm; omega, fun _ => ⟨rfl, trivial, hb⟩⟩, hw3, fun i hi => ?_⟩
    obtain ⟨cs', y, hc, hl1, ht'⟩ := hP i hi
    obtain ⟨_, hlc, hcell⟩ := World.cells?_some hc
    refine ⟨m, cs', y, by omega, hlc, hl1, ht', fun j hj => ?_⟩
    have := hcell j hj
    simpa only [Addr.add_lit] using this
end
theorem list1 {l : List Value} (h : l.length = 1) : ∃ a, l = [a] := by
  match l, h with
  | [a], _ => exact ⟨a, rfl⟩
theorem list4 {l : List Value} (h : l.length = 4) : ∃ a b c d, l = [a, b, c, d] := by
  match l, h with
  | [a, b, c, d], _ => exact ⟨a, b, c, d, rfl⟩
theorem list5 {l : List Value} (h : l.length = 5) : ∃ a b c d e, l = [a, b, c, d, e] := by
  match l, h with
  | [a, b, c, d, e], _ => exact ⟨a, b, c, d, e, rfl⟩
theorem Tryz.ocells32 : Tryz.prog.cellsOf 32 = 4 := by kernel_rfl
theorem Tryz.ocells44 : Tryz.prog.cellsOf 44 = 5 := by kernel_rfl
theorem Tryz.ocells9 : Tryz.prog.cellsOf 9 = 1 := by kernel_rfl
theorem Tryz.ocells28 : Tryz.prog.cellsOf 28 = 1 := by kernel_rfl
theorem Tryz.ocells29 : Tryz.prog.cellsOf 29 = 1 := by kernel_rfl
theorem Tryz.ocells30 : Tryz.prog.cellsOf 30 = 1 := by kernel_rfl
theorem Tryz.obytes9 : Tryz.prog.bytesOf 9 = 16 := by kernel_rfl
theorem Tryz.obytes44 : Tryz.prog.bytesOf 44 = 88 := by kernel_rfl
section
variable {H : Type} {enc : TypeId × Value → H} {w : World} {base : Nat} {spare : Nat → Bool} {held : Bool}
theorem open_str {fuel : Nat} {cs : List Value} {x : DataW H × List MemPlace} (hx : Lit1 Tryz.prog 9 x.1) (h : DataW.trod enc Tryz.prog w base spare held fuel 9 cs = some x) : ∃ s : K.T, cs = [S s] ∧ s.length ≤ 140737488351232 := by
  obtain ⟨s, e, hy, _⟩ := DataW.trod_string Tryz.underlying9 h
  rw [hy] at hx
  have := Lit1.string hx
  exact ⟨s.data.toList, by rw [e], by simpa using this⟩
theorem open_texts {fuel : Nat} {cs : List Value} {x : DataW H × List MemPlace} (hx : Lit1 Tryz.prog 29 x.1) (h : DataW.trod enc Tryz.prog w base spare held fuel 29 cs = some x) :
    ∃ q l, cs = [q] ∧ RepT Any w q l ∧ l.length * 16 ≤ 140737488351232 := by
  obtain ⟨q, g, o, len, rfl, hs, hb, he⟩ := open_elems Tryz.underlying29 1 Tryz.ocells9 (by omega) hx h
  rw [Tryz.obytes9] at hb
  have hP : ∀ i, i < len → ∃ t : K.T, w.cell? ⟨g, o + i, none⟩ = some (S t) ∧ t.length ≤ 140737488353000 := by
    intro i hi
    obtain ⟨m, cs', y, hm, hlc, hl1, ht, hc⟩ := he i hi
    obtain ⟨s, rfl, hl⟩ := open_str hl1 ht
    exact ⟨s, by simpa using hc 0 (by omega), by omega⟩
  obtain ⟨ts, hl, hts⟩ := pick_list len hP
  exact ⟨q, ts, rfl, ⟨g, o, by rw [hl]; exact hs, hts⟩, by rw [hl]; exact hb⟩
def OpenN (enc : TypeId × Value → H) (w : World) (base : Nat) (spare : Nat → Bool) (held : Bool) (fuel : Nat) : Prop :=
  ∀ cs x, cs.length = 4 → Lit1 Tryz.prog 32 x.1 → DataW.trod enc Tryz.prog w base spare held fuel 32 cs = some x → ∃ v q1 q2, cs = (nv v q1 q2).toList ∧ Rep Any w q1 q2 v
def OpenK (enc : TypeId × Value → H) (w : World) (base : Nat) (spare : Nat → Bool) (held : Bool) (fuel : Nat) : Prop :=
  ∀ cs x, cs.length = 5 → Lit1 Tryz.prog 44 x.1 → DataW.trod enc Tryz.prog w base spare held fuel 44 cs = some x → ∃ key v q1 q2, cs = (kv key v q1 q2).toList ∧ key.length ≤ 140737488353000 ∧ Rep Any w q1 q2 v
theorem open_keys {fuel : Nat} {cs : List Value} {x : DataW H × List MemPlace} (hx : Lit1 Tryz.prog 30 x.1) (ih : ∀ m, m < fuel → OpenK enc w base spare held m) (h : DataW.trod enc Tryz.prog w base spare held fuel 30 cs = some x) :
    ∃ q l, cs = [q] ∧ RepK Any w q l ∧ l.length * 88 ≤ 140737488351232 := by
  obtain ⟨q, g, o, len, rfl, hs, hb, he⟩ := open_elems Tryz.underlying30 5 Tryz.ocells44 (by omega) hx h
  rw [Tryz.obytes44] at hb
  have hP : ∀ i, i < len → ∃ t : (K.T × Nd) × Value × Value, At5 w g (o + i * 5) t.1.1 t.1.2 t.2.1 t.2.2 ∧ t.1.1.length ≤ 140737488353000 ∧ Rep Any w t.2.1 t.2.2 t.1.2 := by
    intro i hi
    obtain ⟨m, cs', y, hm, hlc, hl1, ht, hc⟩ := he i hi
    obtain ⟨key, v, q1, q2, rfl, hk, hr⟩ := ih m hm cs' y hlc hl1 ht
    exact ⟨⟨⟨key, v⟩, q1, q2⟩, ⟨hc 0 (by omega), hc 1 (by omega), hc 2 (by omega), hc 3 (by omega), hc 4 (by omega)⟩, hk, hr⟩
  obtain ⟨ts, hl, hts⟩ := pick_list len hP
  refine ⟨q, ts.map (·.1), rfl, ⟨g, o, fun i => ((ts[i]?).map (·.2.1)).getD (.bool true), fun i => ((ts[i]?).map (·.2.2)).getD (.bool true), by rw [List.length_map, hl]; exact hs, fun i y hy => ?_⟩, by rw [List.length_map, hl]; exact hb⟩
  rw [List.getElem?_map, Option.map_eq_some_iff] at hy
  obtain ⟨t, ht, rfl⟩ := hy
  simp only [ht, Option.map_some, Option.getD_some]
  exact hts i t ht
theorem open_node : ∀ fuel, OpenN enc w base spare held fuel ∧ OpenK enc w base spare held fuel := by
  intro fuel
  induction fuel using Nat.strongRecOn with
  | ind fuel ih =>
    constructor
    · intro cs x hl hw h
      obtain ⟨c0, c1, c2, c3, rfl⟩ := list4 hl
      obtain ⟨xs, n, hf, hxe, _, hlen, hall⟩ := DataW.trod_struct Tryz.underlying32 h
      rw [hxe] at hw
      match xs, hlen with
      | [y0, y1, y2, y3], _ =>
        have g0 := hall 0 _ rfl
        have g1 := hall 1 _ rfl
        have g2 := hall 2 _ rfl
        have g3 := hall 3 _ rfl
        simp [Tryz.ocells28, Tryz.ocells9, Tryz.ocells29, Tryz.ocells30] at g0 g1 g2 g3
        obtain ⟨k, e0, _, wk⟩ := DataW.trod_int Tryz.underlying28 g0
        obtain ⟨s, e1, hsl⟩ := open_str (Lit1.struct Tryz.underlying32 hw 1 9 _ (by rfl) rfl) g1
        obtain ⟨q1, l, e2, r1, b1⟩ := open_texts (Lit1.struct Tryz.underlying32 hw 2 29 _ (by rfl) rfl) g2
        obtain ⟨q2, p, e3, r2, b2⟩ := open_keys (Lit1.struct Tryz.underlying32 hw 3 30 _ (by rfl) rfl) (fun m hm => (ih m (by omega)).2) g3
        simp only [List.cons.injEq, and_true] at e0 e1 e2 e3
        subst e0; subst e1; subst e2; subst e3
        have bk := bounds_u8 wk
        obtain ⟨kn, rfl⟩ : ∃ kn : Nat, k = (kn : Int) := ⟨k.toNat, by omega⟩
        exact ⟨.mk kn s l p, c2, c3, rfl, Rep.of ⟨by show kn ≤ 255; omega, by show s.length ≤ _; omega, by show l.length * 16 ≤ _; omega, by show p.length * 88 ≤ _; omega⟩ r1 r2⟩
    · intro cs x hl hw h
      obtain ⟨c0, c1, c2, c3, c4, rfl⟩ := list5 hl
      obtain ⟨xs, n, hf, hxe, _, hlen, hall⟩ := DataW.trod_struct Tryz.underlying44 h
      rw [hxe] at hw
      match xs, hlen with
      | [y0, y1], _ =>
        have g0 := hall 0 _ rfl
        have g1 := hall 1 _ rfl
        simp [Tryz.ocells9, Tryz.ocells32] at g0 g1
        obtain ⟨s, e0, hsl⟩ := open_str (Lit1.struct Tryz.underlying44 hw 0 9 _ (by rfl) rfl) g0
        obtain ⟨v, q1, q2, e1, r⟩ := (ih n (by omega)).1 _ _ (by rfl) (Lit1.struct Tryz.underlying44 hw 1 32 _ (by rfl) rfl) g1
        simp only [List.cons.injEq, and_true] at e0
        subst e0
        exact ⟨s, v, q1, q2, by rw [e1], by omega, r⟩
end
/-- an argument that is a node -/
theorem arg_node {H : Type} {enc : TypeId × Value → H} {w : World} {base : Nat} {spare : Nat → Bool} {held : Bool} {r : Reach} {b0 : Nat} {v : Value} {d : DataW H} {p : List MemPlace}
    (hv : Value.okWide Tryz.prog w r b0 32 v) (h : DataW.Trod enc Tryz.prog w base spare held 32 v d p) (hx : Lit1 Tryz.prog 32 d) : ∃ x q1 q2, v = .agg (nv x q1 q2) ∧ Rep Any w q1 q2 x := by
  obtain ⟨cs, rfl, hsz⟩ := okWide_struct Tryz.underlying32 hv
  rw [Tryz.ocells32] at hsz
  obtain ⟨fuel, hf⟩ := h
  obtain ⟨x, q1, q2, e, hr⟩ := (open_node fuel).1 _ _ (by simpa [Value.cells] using hsz) hx hf
  refine ⟨x, q1, q2, ?_, hr⟩
  have : cs = nv x q1 q2 := by
    apply Array.toList_inj.1
    simpa [Value.cells] using e
  rw [this]
/-- an argument that is texts -/
theorem arg_texts {H : Type} {enc : TypeId × Value → H} {w : World} {base : Nat} {spare : Nat → Bool} {held : Bool} {r : Reach} {b0 : Nat} {v : Value} {d : DataW H} {p : List MemPlace}
    (hv : Value.okWide Tryz.prog w r b0 29 v) (h : DataW.Trod enc Tryz.prog w base spare held 29 v d p) (hx : Lit1 Tryz.prog 29 d) : ∃ l, RepT Any w v l := by
  obtain ⟨ad, len, cap, rfl⟩ := okWide_slice Tryz.underlying29 hv
  obtain ⟨fuel, hf⟩ := h
  obtain ⟨q, l, e, hr, _⟩ := open_texts hx hf
  simp [Value.cells] at e
  exact ⟨l, by rw [e]; exact hr⟩
end Go.Proofs.YtegobomfhdfodaaGreatDoor
