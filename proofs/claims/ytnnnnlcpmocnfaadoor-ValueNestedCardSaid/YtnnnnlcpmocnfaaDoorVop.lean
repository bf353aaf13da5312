/- ARGUMENTS THAT ARE VALUES, OPENED TO THEIR DATA. -/
import Derived.Test.YtnnnnlcpmocnfaaDoorVm
import Derived.ProofKit
import Derived.OpenShut
import Derived.Deep.Slices
import Derived.Deep.Fields
import Derived.ChangeSame
import Derived.Lib.SmallJoins
namespace Go.Proofs.YtnnnnlcpmocnfaaDoor
open Go.RowKit Go.ChangeShapes Go.WideShapes Go.Deep
set_option linter.unusedVariables false
set_option linter.unusedSimpArgs false

theorem Tryd.cells27 : Tryd.prog.cellsOf 27 = 7 := by kernel_rfl
theorem Tryd.cells51 : Tryd.prog.cellsOf 51 = 8 := by kernel_rfl
theorem Tryd.bytes27 : Tryd.prog.bytesOf 27 = 96 := by kernel_rfl
theorem Tryd.bytes51 : Tryd.prog.bytesOf 51 = 112 := by kernel_rfl
theorem Tryd.cells22 : Tryd.prog.cellsOf 22 = 1 := by kernel_rfl
theorem Tryd.cells9 : Tryd.prog.cellsOf 9 = 1 := by kernel_rfl
theorem Tryd.cells4 : Tryd.prog.cellsOf 4 = 1 := by kernel_rfl
theorem Tryd.cells2 : Tryd.prog.cellsOf 2 = 1 := by kernel_rfl
theorem Tryd.cells23 : Tryd.prog.cellsOf 23 = 1 := by kernel_rfl
theorem Tryd.cells24 : Tryd.prog.cellsOf 24 = 1 := by kernel_rfl
theorem Tryd.cells25 : Tryd.prog.cellsOf 25 = 1 := by kernel_rfl

theorem pick_list {α : Type} {P : Nat → α → Prop} : ∀ n, (∀ i, i < n → ∃ x, P i x) → ∃ l : List α, l.length = n ∧ ∀ i x, l[i]? = some x → P i x := by
  intro n
  induction n with
  | zero => intro _; exact ⟨[], rfl, fun i x h => by simp at h⟩
  | succ n ih =>
    intro h
    obtain ⟨l, hl, hp⟩ := ih fun i hi => h i (by omega)
    obtain ⟨x, hx⟩ := h n (by omega)
    refine ⟨l ++ [x], by simp [hl], fun i y hy => ?_⟩
    by_cases hi : i < n
    · rw [List.getElem?_append_left (by omega)] at hy; exact hp i y hy
    · have hin : i < (l ++ [x]).length := (List.getElem?_eq_some_iff.1 hy).1
      have e : i = n := by simp at hin; omega
      subst e
      rw [List.getElem?_append_right (by omega), hl] at hy
      simp at hy
      subst hy
      exact hx

section
variable {H : Type} {enc : TypeId × Value → H} {w : World} {base : Nat} {spare : Nat → Bool} {held : Bool}

theorem float_wf {k : FloatKind} {t : TypeId} {fuel : Nat} {cs : List Value} {x : DataW H × List MemPlace} (ht : Tryd.prog.underlying t = some (.float k)) (h : DataW.trod enc Tryd.prog w base spare held fuel t cs = some x) :
    ∃ b, cs = [.float k b] ∧ (Lit.float k b).wf = true := by
  cases fuel with
  | zero => simp [DataW.trod] at h
  | succ n =>
    unfold DataW.trod at h
    rw [ht] at h
    split at h <;> simp_all

/-- no part of the datum is beyond the form's reach -/
def Lit1 (t : TypeId) (d : DataW H) : Prop := (DataW.weights Tryd.prog t d).all (· ≤ reachBytes) = true
theorem Lit1.all {e : TypeId} : ∀ {ds : List (DataW H)}, (DataW.weightsAll Tryd.prog e ds).all (· ≤ reachBytes) = true → ∀ d ∈ ds, Lit1 e d := by
  intro ds
  induction ds with
  | nil => intro _ d hd; cases hd
  | cons x r ih =>
    intro h d hd
    rw [DataW.weightsAll, List.all_append, Bool.and_eq_true] at h
    rcases List.mem_cons.1 hd with rfl | hd
    · exact h.1
    · exact ih h.2 d hd
theorem Lit1.each : ∀ {ts : List TypeId} {ds : List (DataW H)}, (DataW.weightsEach Tryd.prog ts ds).all (· ≤ reachBytes) = true → ∀ (i : Nat) t d, ts[i]? = some t → ds[i]? = some d → Lit1 t d := by
  intro ts
  induction ts with
  | nil => intro ds _ i t d h; simp at h
  | cons t0 ts ih =>
    intro ds h i t d ht hd
    cases ds with
    | nil => simp at hd
    | cons d0 ds =>
      rw [DataW.weightsEach, List.all_append, Bool.and_eq_true] at h
      cases i with
      | zero => simp at ht hd; subst ht; subst hd; exact h.1
      | succ i => exact ih h.2 i t d (by simpa using ht) (by simpa using hd)
theorem Lit1.slice {t e : TypeId} (ht : Tryd.prog.underlying t = some (.slice e)) {a b : List (DataW H)} (h : Lit1 t (.slice a b)) : (a.length + b.length) * Tryd.prog.bytesOf e ≤ reachBytes ∧ ∀ d ∈ a, Lit1 e d := by
  unfold Lit1 at h
  simp only [DataW.weights, ht, List.all_cons, List.all_append, Bool.and_eq_true, decide_eq_true_eq] at h
  exact ⟨h.1, Lit1.all h.2.1⟩
theorem Lit1.struct {t : TypeId} {fs : Array Field} (ht : Tryd.prog.underlying t = some (.struct fs)) {a : List (DataW H)} (h : Lit1 t (.agg a)) (i : Nat) (u : TypeId) (d : DataW H) (hu : (fs.toList.map (·.type))[i]? = some u) (hd : a[i]? = some d) : Lit1 u d := by
  unfold Lit1 at h
  simp only [DataW.weights, ht] at h
  exact Lit1.each h i u d hu hd
theorem Lit1.string {t : TypeId} {l : List UInt8} (h : Lit1 t (.lit (.string l) : DataW H)) : l.length ≤ 140737488351232 := by
  have := List.all_eq_true.1 h l.length (by simp [DataW.weights])
  have h2 : l.length ≤ reachBytes := of_decide_eq_true this
  exact h2

/-- a slice's elements, whatever they are -/
theorem open_elems {t e : TypeId} {fuel : Nat} {cs : List Value} {x : DataW H × List MemPlace} (ht : Tryd.prog.underlying t = some (.slice e)) (n : Nat) (hn : Tryd.prog.cellsOf e = n) (hpos : 0 < n) (hx : Lit1 t x.1)
    (h : DataW.trod enc Tryd.prog w base spare held fuel t cs = some x) :
    ∃ (q : Value) (g o len : Nat), cs = [q] ∧ Sl Any w q g o len ∧ len * Tryd.prog.bytesOf e ≤ 140737488351232 ∧ ∀ i, i < len → ∃ m cs' y, m < fuel ∧ cs'.length = n ∧ Lit1 e y.1 ∧ DataW.trod enc Tryd.prog w base spare held m e cs' = some y ∧ ∀ j, j < n → w.cell? ⟨g, o + i * n + j, none⟩ = cs'[j]? := by
  rcases DataW.trod_slice ht h with ⟨hcs, _⟩ | ⟨a, len, cap, elems, rest, m, hfu, hcs, hxe, _, hl, hm, hlen, hel, _, _⟩
  · exact ⟨_, 0, 0, 0, hcs, ⟨none, 0, rfl, by simp, fun h => absurd h (by simp)⟩, by simp, fun i hi => absurd hi (by simp)⟩
  · rw [hxe] at hx
    obtain ⟨hw1, hw2⟩ := Lit1.slice ht hx
    simp only [List.length_map, reachBytes] at hw1
    have hw3 : len * Tryd.prog.bytesOf e ≤ 140737488351232 := by
      have : elems.length * Tryd.prog.bytesOf e ≤ (elems.length + rest.length) * Tryd.prog.bytesOf e := Nat.mul_le_mul_right _ (by omega)
      rw [← hlen]; omega
    rw [hn] at hel
    have hP : ∀ i, i < len → ∃ cs' y, w.cells? base (a.add (i * n)) n = some cs' ∧ Lit1 e y.1 ∧ DataW.trod enc Tryd.prog w base spare held m e cs' = some y := by
      intro i hi
      have h1 := hel i hi
      have h2 : elems[i]? = some (elems[i]'(by omega)) := by simp
      rw [h2, Option.bind_eq_some_iff] at h1
      obtain ⟨cs', h3, h4⟩ := h1
      exact ⟨cs', _, h3, hw2 _ (List.mem_map.2 ⟨_, List.mem_of_getElem? h2, rfl⟩), h4⟩
    by_cases h0 : len = 0
    · subst h0
      exact ⟨_, 0, 0, 0, hcs, ⟨some a, cap, rfl, by simp, fun h => absurd h (by simp)⟩, by simp, fun i hi => absurd hi (by simp)⟩
    obtain ⟨b, off, spot⟩ := a
    have hs : spot = none ∧ b < w.heap.size := by
      obtain ⟨cs', y, hc, _⟩ := hP 0 (by omega)
      obtain ⟨_, hlc, hcell⟩ := World.cells?_some hc
      have hc0 := hcell 0 (by omega)
      have he : cs'[0]? = some (cs'[0]'(by omega)) := by simp
      rw [he] at hc0
      have hsp : spot = none := by simpa [Addr.add] using World.cell?_spot hc0
      subst hsp
      simp only [Addr.add_lit] at hc0
      exact ⟨rfl, World.block_lt_of_cell? w _ hc0⟩
    obtain ⟨rfl, hb⟩ := hs
    refine ⟨_, b, off, len, hcs, ⟨_, cap, rfl, by have hm' : cap ≤ 9223372036854775807 := hm; omega, fun _ => ⟨rfl, trivial, hb⟩⟩, hw3, fun i hi => ?_⟩
    obtain ⟨cs', y, hc, hl1, ht'⟩ := hP i hi
    obtain ⟨_, hlc, hcell⟩ := World.cells?_some hc
    refine ⟨m, cs', y, by omega, hlc, hl1, ht', fun j hj => ?_⟩
    have := hcell j hj
    simpa only [Addr.add_lit] using this

theorem list7 {l : List Value} (h : l.length = 7) : ∃ a b c d e f g, l = [a, b, c, d, e, f, g] := by
  match l, h with
  | [a, b, c, d, e, f, g], _ => exact ⟨a, b, c, d, e, f, g, rfl⟩
theorem list8 {l : List Value} (h : l.length = 8) : ∃ a b c d e f g i, l = [a, b, c, d, e, f, g, i] := by
  match l, h with
  | [a, b, c, d, e, f, g, i], _ => exact ⟨a, b, c, d, e, f, g, i, rfl⟩
end

section
variable {H : Type} {enc : TypeId × Value → H} {w : World} {base : Nat} {spare : Nat → Bool} {held : Bool}
def OpenV (enc : TypeId × Value → H) (w : World) (base : Nat) (spare : Nat → Bool) (held : Bool) (fuel : Nat) : Prop :=
  ∀ cs x, cs.length = 7 → Lit1 27 x.1 → DataW.trod enc Tryd.prog w base spare held fuel 27 cs = some x → ∃ v q1 q2, cs = (cv v q1 q2).toList ∧ Rep Any w q1 q2 v
def OpenP (enc : TypeId × Value → H) (w : World) (base : Nat) (spare : Nat → Bool) (held : Bool) (fuel : Nat) : Prop :=
  ∀ cs x, cs.length = 8 → Lit1 51 x.1 → DataW.trod enc Tryd.prog w base spare held fuel 51 cs = some x → ∃ key v q1 q2, cs = .string key :: (cv v q1 q2).toList ∧ key.size ≤ 140737488353000 ∧ Rep Any w q1 q2 v

theorem open_list {fuel : Nat} {cs : List Value} {x : DataW H × List MemPlace} (hx : Lit1 24 x.1) (ih : ∀ m, m < fuel → OpenV enc w base spare held m) (h : DataW.trod enc Tryd.prog w base spare held fuel 24 cs = some x) :
    ∃ q l, cs = [q] ∧ RepL Any w q l ∧ l.length * 96 ≤ 140737488351232 := by
  obtain ⟨q, g, o, len, rfl, hs, hb, he⟩ := open_elems Tryd.underlying24 7 Tryd.cells27 (by omega) hx h
  rw [Tryd.bytes27] at hb
  have hP : ∀ i, i < len → ∃ t : V × Value × Value, At7 w g (o + i * 7) t.1 t.2.1 t.2.2 ∧ Rep Any w t.2.1 t.2.2 t.1 := by
    intro i hi
    obtain ⟨m, cs', y, hm, hlc, hl1, ht, hc⟩ := he i hi
    obtain ⟨v, q1, q2, rfl, hr⟩ := ih m hm cs' y hlc hl1 ht
    exact ⟨⟨v, q1, q2⟩, ⟨hc 0 (by omega), hc 1 (by omega), hc 2 (by omega), hc 3 (by omega), hc 4 (by omega), hc 5 (by omega), hc 6 (by omega)⟩, hr⟩
  obtain ⟨ts, hl, hts⟩ := pick_list len hP
  refine ⟨q, ts.map (·.1), rfl, ⟨g, o, fun i => ((ts[i]?).map (·.2.1)).getD (.bool true), fun i => ((ts[i]?).map (·.2.2)).getD (.bool true), by rw [List.length_map, hl]; exact hs, fun i y hy => ?_⟩, by rw [List.length_map, hl]; exact hb⟩
  rw [List.getElem?_map, Option.map_eq_some_iff] at hy
  obtain ⟨t, ht, rfl⟩ := hy
  simp only [ht, Option.map_some, Option.getD_some]
  exact hts i t ht
theorem open_plist {fuel : Nat} {cs : List Value} {x : DataW H × List MemPlace} (hx : Lit1 25 x.1) (ih : ∀ m, m < fuel → OpenP enc w base spare held m) (h : DataW.trod enc Tryd.prog w base spare held fuel 25 cs = some x) :
    ∃ q l, cs = [q] ∧ RepP Any w q l ∧ l.length * 112 ≤ 140737488351232 := by
  obtain ⟨q, g, o, len, rfl, hs, hb, he⟩ := open_elems Tryd.underlying25 8 Tryd.cells51 (by omega) hx h
  rw [Tryd.bytes51] at hb
  have hP : ∀ i, i < len → ∃ t : (ByteArray × V) × Value × Value, At8 w g (o + i * 8) t.1.1 t.1.2 t.2.1 t.2.2 ∧ t.1.1.size ≤ 140737488353000 ∧ Rep Any w t.2.1 t.2.2 t.1.2 := by
    intro i hi
    obtain ⟨m, cs', y, hm, hlc, hl1, ht, hc⟩ := he i hi
    obtain ⟨key, v, q1, q2, rfl, hk, hr⟩ := ih m hm cs' y hlc hl1 ht
    exact ⟨⟨⟨key, v⟩, q1, q2⟩, ⟨hc 0 (by omega), hc 1 (by omega), hc 2 (by omega), hc 3 (by omega), hc 4 (by omega), hc 5 (by omega), hc 6 (by omega), hc 7 (by omega)⟩, hk, hr⟩
  obtain ⟨ts, hl, hts⟩ := pick_list len hP
  refine ⟨q, ts.map (·.1), rfl, ⟨g, o, fun i => ((ts[i]?).map (·.2.1)).getD (.bool true), fun i => ((ts[i]?).map (·.2.2)).getD (.bool true), by rw [List.length_map, hl]; exact hs, fun i y hy => ?_⟩, by rw [List.length_map, hl]; exact hb⟩
  rw [List.getElem?_map, Option.map_eq_some_iff] at hy
  obtain ⟨t, ht, rfl⟩ := hy
  simp only [ht, Option.map_some, Option.getD_some]
  exact hts i t ht

set_option maxRecDepth 100000 in
theorem open_both : ∀ fuel, OpenV enc w base spare held fuel ∧ OpenP enc w base spare held fuel := by
  intro fuel
  induction fuel using Nat.strongRecOn with
  | ind fuel ih =>
    constructor
    · intro cs x hl hw h
      obtain ⟨c0, c1, c2, c3, c4, c5, c6, rfl⟩ := list7 hl
      obtain ⟨xs, n, hf, hxe, _, hlen, hall⟩ := DataW.trod_struct Tryd.underlying27 h
      rw [hxe] at hw
      match xs, hlen with
      | [y0, y1, y2, y3, y4, y5, y6], _ =>
        have g0 := hall 0 _ rfl
        have g1 := hall 1 _ rfl
        have g2 := hall 2 _ rfl
        have g3 := hall 3 _ rfl
        have g4 := hall 4 _ rfl
        have g5 := hall 5 _ rfl
        have g6 := hall 6 _ rfl
        simp [Tryd.cells22, Tryd.cells9, Tryd.cells4, Tryd.cells2, Tryd.cells23, Tryd.cells24, Tryd.cells25] at g0 g1 g2 g3 g4 g5 g6
        obtain ⟨k, e0, _, wk⟩ := DataW.trod_int Tryd.underlying22 g0
        obtain ⟨s, e1, x1, ws⟩ := DataW.trod_string Tryd.underlying9 g1
        obtain ⟨b, e2, _⟩ := DataW.trod_bool Tryd.underlying4 g2
        obtain ⟨m, e3, _, hm⟩ := DataW.trod_int Tryd.underlying2 g3
        obtain ⟨f, e4, wf⟩ := float_wf Tryd.underlying23 g4
        have w1 := Lit1.struct Tryd.underlying27 hw 1 9 _ (by rfl) rfl
        have w5 := Lit1.struct Tryd.underlying27 hw 5 24 _ (by rfl) rfl
        have w6 := Lit1.struct Tryd.underlying27 hw 6 25 _ (by rfl) rfl
        obtain ⟨q1, l, e5, r1, b1⟩ := open_list w5 (fun m hm => (ih m (by omega)).1) g5
        obtain ⟨q2, p, e6, r2, b2⟩ := open_plist w6 (fun m hm => (ih m (by omega)).2) g6
        simp only [List.cons.injEq, and_true] at e0 e1 e2 e3 e4 e5 e6
        subst e0; subst e1; subst e2; subst e3; subst e4; subst e5; subst e6
        have bk := bounds_u8 wk
        have bm := bounds_i64 hm
        rw [x1] at w1
        have ws' : s.size ≤ 140737488351232 := by have := Lit1.string w1; simpa using this
        refine ⟨.mk k s b m f l p, c5, c6, rfl, Rep.of ⟨bk.1, bk.2, by show s.size ≤ _; omega, by show l.length * 96 ≤ _; omega, by show p.length * 112 ≤ _; omega, bm.1, bm.2, ?_⟩ r1 r2⟩
        simpa [Lit.wf, V.f] using wf
    · intro cs x hl hw h
      obtain ⟨c0, c1, c2, c3, c4, c5, c6, c7, rfl⟩ := list8 hl
      obtain ⟨xs, n, hf, hxe, _, hlen, hall⟩ := DataW.trod_struct Tryd.underlying51 h
      rw [hxe] at hw
      match xs, hlen with
      | [y0, y1], _ =>
        have g0 := hall 0 _ rfl
        have g1 := hall 1 _ rfl
        simp [Tryd.cells9, Tryd.cells27] at g0 g1
        obtain ⟨s, e0, x1, ws⟩ := DataW.trod_string Tryd.underlying9 g0
        have w0 := Lit1.struct Tryd.underlying51 hw 0 9 _ (by rfl) rfl
        have w1 := Lit1.struct Tryd.underlying51 hw 1 27 _ (by rfl) rfl
        rw [x1] at w0
        have ws' : s.size ≤ 140737488351232 := by have := Lit1.string w0; simpa using this
        obtain ⟨v, q1, q2, e1, r⟩ := (ih n (by omega)).1 _ _ (by rfl) w1 g1
        simp only [List.cons.injEq, and_true] at e0
        subst e0
        exact ⟨s, v, q1, q2, by rw [e1], by omega, r⟩
end

set_option maxRecDepth 100000 in
/-- an argument that is a value -/
theorem arg_val {H : Type} {enc : TypeId × Value → H} {w : World} {base : Nat} {spare : Nat → Bool} {held : Bool} {r : Reach} {b0 : Nat} {v : Value} {d : DataW H} {p : List MemPlace}
    (hv : Value.okWide Tryd.prog w r b0 27 v) (h : DataW.Trod enc Tryd.prog w base spare held 27 v d p) (hx : Lit1 27 d) : ∃ x q1 q2, v = .agg (cv x q1 q2) ∧ Rep Any w q1 q2 x := by
  obtain ⟨cs, rfl, hsz⟩ := okWide_struct Tryd.underlying27 hv
  rw [Tryd.cells27] at hsz
  obtain ⟨fuel, hf⟩ := h
  obtain ⟨x, q1, q2, e, hr⟩ := (open_both fuel).1 _ _ (by simpa [Value.cells] using hsz) hx hf
  refine ⟨x, q1, q2, ?_, hr⟩
  have : cs = cv x q1 q2 := by
    apply Array.toList_inj.1
    simpa [Value.cells] using e
  rw [this]
set_option maxRecDepth 100000 in
/-- an argument that is a pair -/
theorem arg_pair {H : Type} {enc : TypeId × Value → H} {w : World} {base : Nat} {spare : Nat → Bool} {held : Bool} {r : Reach} {b0 : Nat} {v : Value} {d : DataW H} {p : List MemPlace}
    (hv : Value.okWide Tryd.prog w r b0 51 v) (h : DataW.Trod enc Tryd.prog w base spare held 51 v d p) (hx : Lit1 51 d) :
    ∃ key x q1 q2, v = .agg (#[.string key] ++ cv x q1 q2) ∧ key.size ≤ 140737488353000 ∧ Rep Any w q1 q2 x := by
  obtain ⟨cs, rfl, hsz⟩ := okWide_struct Tryd.underlying51 hv
  rw [Tryd.cells51] at hsz
  obtain ⟨fuel, hf⟩ := h
  obtain ⟨key, x, q1, q2, e, hk, hr⟩ := (open_both fuel).2 _ _ (by simpa [Value.cells] using hsz) hx hf
  refine ⟨key, x, q1, q2, ?_, hk, hr⟩
  have : cs = #[.string key] ++ cv x q1 q2 := by
    apply Array.toList_inj.1
    simpa [Value.cells] using e
  rw [this]
set_option maxRecDepth 100000 in
/-- an argument that is a list of pairs -/
theorem arg_pairs {H : Type} {enc : TypeId × Value → H} {w : World} {base : Nat} {spare : Nat → Bool} {held : Bool} {r : Reach} {b0 : Nat} {v : Value} {d : DataW H} {p : List MemPlace}
    (hv : Value.okWide Tryd.prog w r b0 25 v) (h : DataW.Trod enc Tryd.prog w base spare held 25 v d p) (hx : Lit1 25 d) : ∃ l, RepP Any w v l ∧ l.length * 112 ≤ 140737488351232 := by
  obtain ⟨ad, len, cap, rfl⟩ := okWide_slice Tryd.underlying25 hv
  obtain ⟨fuel, hf⟩ := h
  obtain ⟨q, l, e, hr, hb⟩ := open_plist hx (fun m _ => (open_both m).2) hf
  simp [Value.cells] at e
  exact ⟨l, by rw [e]; exact hr, hb⟩
end Go.Proofs.YtnnnnlcpmocnfaaDoor
