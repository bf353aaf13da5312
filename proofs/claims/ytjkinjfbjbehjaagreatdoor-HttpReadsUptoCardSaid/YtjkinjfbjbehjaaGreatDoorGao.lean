/- HTTP: THE PACKAGE'S VARIABLES, from what the row lists and from the world's shape. -/
import Derived.Test.YtjkinjfbjbehjaaGreatDoorGan
import Derived.Test.YtjkinjfbjbehjaaGreatDoorRows
import Derived.Lib.LaidU8
import Derived.LaidLaws
import Derived.LaidMore
import Derived.SizedLaws
import Derived.Handed
import Derived.Shelf.Vars
namespace Go.Proofs.YtjkinjfbjbehjaaGreatDoor
open Go.RowKit Go.ChangeShapes Go.WideShapes
set_option linter.unusedVariables false
set_option linter.unusedSimpArgs false
set_option maxRecDepth 100000
theorem pow_data : (Rows.laid_internal_strconv_uint64pow10 : DataW Unit) = Lib.tabData .u64 Lib.pow10Tab := by rfl
theorem iface_at {w : World} {name tn : String} {g : Nat} {d : DataW Unit} (hg : Tryz.prog.globalNamed name = some g) (hty : (Tryz.prog.globals[g]?).map (·.type) = some 106) (h : Lib.VarReads Tryz.prog w name (.iface tn d)) : ∃ te pe, w.cell? ⟨g, 0, none⟩ = some (.iface te pe) := by
  obtain ⟨g', t, cs, fuel, p, h1, h2, h3, h4⟩ := h
  obtain rfl := Option.some.inj (hg.symm.trans h1)
  obtain rfl := Option.some.inj (hty.symm.trans h2)
  obtain ⟨ms, hms⟩ : ∃ ms, Tryz.prog.underlying 106 = some (.interface ms) := ⟨_, rfl⟩
  obtain ⟨_, u, v, e, _, _⟩ := iface_of_trod hms h4
  refine ⟨u, v, ?_⟩
  have h5 : w.var? Tryz.prog name = some ([Value.iface u v]).toArray := by rw [h3, ← e]
  have := World.var?_cell hg h5 0
  simpa using this
theorem max_cell {w : World} (h : w.ShapedOpen Tryz.prog) : ∃ m, w.cell? ⟨0, 0, none⟩ = some (.int .i64 m) :=
  cell_of_shapedOpen_int (zero := #[.int .i64 0]) h (by decide +kernel) (t := 3) (by kernel_rfl) (by rfl) (by kernel_rfl) (by kernel_rfl) Tryz.underlying3
theorem http_tabs {w : World} {l : List (String × DataW Unit)} (hs : w.ShapedOpen Tryz.prog) (h : laidMet Tryz.prog l w)
    (h2 : ("strconv.ErrSyntax", Rows.laid_strconv_ErrSyntax) ∈ l) (h3 : ("strconv.ErrRange", Rows.laid_strconv_ErrRange) ∈ l) (h9 : ("internal/strconv.uint64pow10", Rows.laid_internal_strconv_uint64pow10) ∈ l) (h7 : ("math/bits.deBruijn64tab", Rows.laid_math_bits_deBruijn64tab) ∈ l) : Tabs w := by
  have e2 := iface_at (g := 2) (by kernel_rfl) (by kernel_rfl) (Lib.laidMet.reads h h2)
  have e3 := iface_at (g := 3) (by kernel_rfl) (by kernel_rfl) (Lib.laidMet.reads h h3)
  refine ⟨max_cell hs, ?_, e2, e3, ?_⟩
  · obtain ⟨g', t, cs, fuel, p, h1, h2, h3, h4⟩ := Lib.laidMet.reads h h9
    have hg : Tryz.prog.globalNamed "internal/strconv.uint64pow10" = some 1 := by kernel_rfl
    have hty : (Tryz.prog.globals[1]?).map (·.type) = some 153 := by kernel_rfl
    obtain rfl := Option.some.inj (hg.symm.trans h1)
    obtain rfl := Option.some.inj (hty.symm.trans h2)
    rw [pow_data] at h4
    have e := Lib.cells_of_tab (n := 20) (e := 93) (by kernel_rfl) (by kernel_rfl) (by kernel_rfl) (by kernel_rfl) h4
    unfold Lib.TabIs; rw [h3, ← e]
  · obtain ⟨g', t, cs, fuel, p, h1, h2, h3, h4⟩ := Lib.laidMet.reads h h7
    have hg : Tryz.prog.globalNamed "math/bits.deBruijn64tab" = some 7 := by kernel_rfl
    obtain rfl := Option.some.inj (hg.symm.trans h1)
    have h5 := h3
    simp only [World.var?, hg, Option.bind_some] at h5
    split at h5
    · rename_i hh
      exact (Array.getElem?_eq_some_iff.1 hh).1
    · cases h5
section
variable {H : Type} {enc : TypeId × Value → H}
theorem handed_and_shaped {a : Assume} {C : Checked} {os : Os} {f : FuncId} {fn : Func} {s : ChangeSpec} {conds : List PathCond} {apart fresh handsOn again : Bool} {X : World → Array Value → Prop}
    (hX : ∀ (w w' : World) (args : Array Value), w.heap = w'.heap → X w args → X w' args)
    (own : ownKnob C.prog.godebug = none) (started : os.Started) (noInit : C.prog.inits.idxOf? f = none) (hfn : C.prog.funcs[f]? = some fn)
    (witness : ∃ (w : World) (tape : Tape) (i : Input), w.os = os ∧ (w.forCall tape i).Shaped C.prog ∧ i.vars = [] ∧ Input.okWide C.prog (w.forCall tape i) .any w.heap.size f i ∧
      ((s.pre enc C.prog fn conds apart (w.forCall tape i).memory i.args ∧ X (w.forCall tape i).memory i.args) ∧ sizedMet enc C.prog fn (OpenSpec.ofChange s) apart (w.forCall tape i).memory i.args) ∧ a.holds C.prog (lone (Frame.enter C.prog f i.args .normal) [] (w.forCall tape i)))
    (contract : ∀ (W : World) (base : Nat) (args : Array Value) (ds gs : List (DataW H)) (before : List MemPlace),
      (∀ (j : Nat) t v, fn.params[j]? = some t → args[j]? = some v → Value.okWide C.prog W .any base t v) →
      DataW.Whole enc C.prog fn.params.toList s.vars apart W args.toList ds gs before →
      conds.all (PathCond.test C.prog ⟨fn.params.toList, ds, s.plain.varTypes C.prog, gs⟩) = true →
      (DataW.weightsEach C.prog (fn.params.toList ++ s.plain.varTypes C.prog) (ds ++ gs)).all (· ≤ reachBytes) = true → X W args → W.ShapedOpen C.prog →
      a.holds C.prog (lone (Frame.enter C.prog f args .normal) [] W) →
      Calls C.prog f args W fun e W' => ∃ v, e = .returned v ∧ s.post enc C.prog fn apart fresh handsOn again W args v W') :
    ReturnsInHanded a C os f .any (fun w args => (s.pre enc C.prog fn conds apart w args ∧ X w args) ∧ sizedMet enc C.prog fn (OpenSpec.ofChange s) apart w args) (s.post enc C.prog fn apart fresh handsOn again) := by
  refine returnsInHanded_of_calls own started noInit witness ?_
  intro w tape i _ hsh _ hok hpre hholds
  obtain ⟨_, _, _, fn', hfn', _, _, _, _, hval⟩ := hok
  have e : fn' = fn := Option.some.inj (hfn'.symm.trans hfn)
  subst e
  obtain ⟨⟨⟨ds, gs, before, hw, hc⟩, hx⟩, hz⟩ := hpre
  have hw' := DataW.Whole.of_heap (w' := w.forCall tape i) (by rfl) hw
  refine (contract (w.forCall tape i) w.heap.size i.args ds gs before hval hw' hc (hz.weights hw) (hX _ _ _ (by rfl) hx) hsh hholds).mono fun e W' ⟨v, he, hp⟩ => ?_
  subst he
  exact ChangeSpec.post_blind hp
end
end Go.Proofs.YtjkinjfbjbehjaaGreatDoor

/- HTTP: WHAT IS WRITTEN WITH HEADS, READ (mathematics). -/
namespace Go.Proofs.YtjkinjfbjbehjaaGreatDoor
set_option linter.unusedVariables false
set_option linter.unusedSimpArgs false
set_option maxRecDepth 100000
namespace H
def hline (h : Hd) : T := h.name ++ [58, 32] ++ h.value
def isWrong (h : Hd) : Bool := !isOf h.name tok || !isValue h.value || alike h.name lengthN || alike h.name codingN || decide (4096 < h.name.length + 2 + h.value.length)
def whds (hs : List Hd) : T := hs.flatMap fun h => hline h ++ [13, 10]
def woutH (first : T) (hs : List Hd) (body : T) : T := first ++ 13 :: 10 :: (whds hs ++ (wlen body ++ 13 :: 10 :: 13 :: 10 :: body))
def wOk (first : T) (hs : List Hd) (body : T) : Prop := first.length ≤ 4096 ∧ hs.length ≤ 64 ∧ body.length ≤ 65536 ∧ hs.all (fun h => !isWrong h) = true
instance (first : T) (hs : List Hd) (body : T) : Decidable (wOk first hs body) := by unfold wOk; infer_instance
theorem woutH_nil (first body : T) : woutH first [] body = wout first body := rfl

theorem idxB_app (c : UInt8) (a r : T) (h : c ∉ a) : Lib.indexByte (a ++ c :: r) c = ((a.length : Nat) : Int) := by
  induction a with
  | nil => simp [Lib.indexByte]
  | cons b t ih =>
    have hb : ¬ b = c := fun e => h (by simp [e])
    have := ih (fun e => h (by simp [e]))
    simp only [List.cons_append, Lib.indexByte, beq_iff_eq, hb, if_false, this, List.length_cons]
    rw [if_neg (by omega)]
    omega
theorem cut_one (c : UInt8) (a r : T) (h : c ∉ a) : Lib.cut (a ++ c :: r) [c] = (a, r, true) := by
  unfold Lib.cut
  rw [Lib.index_one, idxB_app c a r h, if_pos (by omega)]
  simp
theorem isOf_mem {s : T} {p : Nat → Bool} (h : isOf s p = true) : s ≠ [] ∧ ∀ b ∈ s, p b.toNat = true := by
  unfold isOf at h
  simp only [Bool.and_eq_true, List.all_eq_true] at h
  refine ⟨fun e => by rw [e] at h; simp at h, h.2⟩
theorem isOf_no {s : T} {p : Nat → Bool} (h : isOf s p = true) (c : UInt8) (hc : p c.toNat = false) : c ∉ s := fun hm => by
  have := (isOf_mem h).2 c hm
  rw [hc] at this; cases this
theorem isValue_no {s : T} (h : isValue s = true) : (10 : UInt8) ∉ s ∧ Lib.trimS s [32, 9] = s := by
  unfold isValue at h
  simp only [Bool.or_eq_true, Bool.and_eq_true, decide_eq_true_eq] at h
  rcases h with h | ⟨h1, h2⟩
  · have : s = [] := by simpa using h
    subst this
    exact ⟨by simp, rfl⟩
  · exact ⟨isOf_no h1 10 (by decide), h2.symm⟩
theorem dw_len {p : UInt8 → Bool} (l : T) : (l.dropWhile p).length ≤ l.length := by
  induction l with
  | nil => simp
  | cons b t ih => rw [List.dropWhile_cons]; split <;> simp <;> omega
theorem trim_32 (v : T) (h : Lib.trimS v [32, 9] = v) : Lib.trimS (32 :: v) [32, 9] = v := by
  by_cases hv : v = []
  · subst hv; decide
  · unfold Lib.trimS Lib.trimLeftS Lib.trimRightS at h ⊢
    obtain ⟨p, hp⟩ : ∃ p : UInt8 → Bool, (fun x => ([32, 9] : T).contains x) = p := ⟨_, rfl⟩
    have hp32 : p 32 = true := by rw [← hp]; decide
    rw [hp] at h ⊢
    have l1 : (v.reverse.dropWhile p).length ≤ v.length := by have := dw_len (p := p) v.reverse; simpa using this
    have l2 := dw_len (p := p) (v.reverse.dropWhile p).reverse
    have l3 := congrArg List.length h
    rw [List.length_reverse] at l2
    have e1 : v.reverse.dropWhile p = v.reverse := by
      have hs : v.reverse.dropWhile p <:+ v.reverse := List.dropWhile_suffix p
      exact hs.eq_of_length (by simp; omega)
    rw [e1, List.reverse_reverse] at h
    obtain ⟨c, t, hc⟩ : ∃ c t, v.reverse = c :: t := by
      cases h : v.reverse with
      | nil => simp at h; exact absurd h hv
      | cons c t => exact ⟨c, t, rfl⟩
    have hpc : p c = false := by
      rw [hc, List.dropWhile_cons] at e1
      split at e1
      · have := dw_len (p := p) t
        rw [e1] at this
        simp at this
        omega
      · simpa using ‹¬ p c = true›
    rw [List.reverse_cons, hc, List.cons_append, List.dropWhile_cons, if_neg (by rw [hpc]; decide), ← List.cons_append, ← hc, List.reverse_append, List.reverse_reverse]
    show List.dropWhile p (32 :: v) = v
    rw [List.dropWhile_cons, if_pos hp32, h]
theorem notWrong {h : Hd} (e : isWrong h = false) : isOf h.name tok = true ∧ isValue h.value = true ∧ alike h.name lengthN = false ∧ alike h.name codingN = false ∧ h.name.length + 2 + h.value.length ≤ 4096 := by
  unfold isWrong at e
  simp only [Bool.or_eq_false_iff, Bool.not_eq_eq_eq_not, Bool.not_false, decide_eq_false_iff_not, Nat.not_lt] at e
  obtain ⟨⟨⟨⟨a, b⟩, c⟩, d⟩, f⟩ := e
  exact ⟨a, b, c, d, f⟩
theorem hline_no {h : Hd} (e : isWrong h = false) : (10 : UInt8) ∉ hline h ∧ (hline h).length ≤ 4096 ∧ hline h ≠ [] := by
  obtain ⟨a, b, c, d, f⟩ := notWrong e
  refine ⟨fun hm => ?_, by unfold hline; simp only [List.length_append, List.length_cons, List.length_nil]; omega, by unfold hline; simp⟩
  unfold hline at hm
  simp only [List.mem_append] at hm
  rcases hm with (hm | hm) | hm
  · exact isOf_no a 10 (by decide) hm
  · exact absurd hm (by decide)
  · exact (isValue_no b).1 hm
theorem head_hline {h : Hd} (e : isWrong h = false) : head (hline h) = .ok h := by
  obtain ⟨a, b, c, d, f⟩ := notWrong e
  have hc : Lib.cut (hline h) [58] = (h.name, 32 :: h.value, true) := by
    unfold hline
    rw [List.append_assoc]
    exact cut_one 58 h.name (32 :: h.value) (isOf_no a 58 (by decide))
  unfold head
  simp only [hc, trim_32 h.value (isValue_no b).2, a, b]
  rfl
theorem addHead_ok {h : Hd} (e : isWrong h = false) (f : Fr) (hl : f.hs.length < 64) : addHead f h = .ok { f with hs := f.hs ++ [h] } := by
  obtain ⟨a, b, c, d, _⟩ := notWrong e
  unfold addHead
  rw [if_neg (by rw [c]; decide), if_neg (by rw [d]; decide), if_pos hl]
theorem headsF_step (n : Nat) (f : Fr) (h : Hd) (r : T) (e : isWrong h = false) (hl : f.hs.length < 64) : headsF (n + 1) f (hline h ++ 13 :: 10 :: r) = headsF n { f with hs := f.hs ++ [h] } r := by
  obtain ⟨h1, h2, h3⟩ := hline_no e
  simp only [headsF]
  rw [line_crlf _ _ h1 h2]
  simp only
  rw [if_neg h3, head_hline e]
  simp only
  rw [addHead_ok e f hl]
theorem headsF_all (body r : T) (hb : body.length ≤ 65536) : ∀ (hs : List Hd) (n : Nat) (acc : List Hd), hs.all (fun h => !isWrong h) = true → acc.length + hs.length ≤ 64 → hs.length + 2 ≤ n →
    headsF n ⟨acc, [], []⟩ (whds hs ++ (wlen body ++ 13 :: 10 :: 13 :: 10 :: r)) = .ok (⟨acc ++ hs, [Lib.itoa (body.length : Int)], []⟩, r)
  | [], n, acc, _, hl, hn => by
    obtain ⟨h1, h2, h3⟩ := wlen_no body hb
    obtain ⟨_, d2, d3⟩ := dec_all body.length hb
    obtain ⟨m, rfl⟩ : ∃ m, n = m + 1 + 1 := ⟨n - 2, by simp at hn; omega⟩
    show headsF (m + 1 + 1) ⟨acc, [], []⟩ (wlen body ++ 13 :: 10 :: 13 :: 10 :: r) = _
    simp only [headsF]
    rw [line_crlf _ _ h1 h2]
    simp only
    rw [if_neg h3]
    have hh : head (wlen body) = .ok ⟨lengthN, Lib.itoa (body.length : Int)⟩ := by
      unfold wlen
      rw [itoa_dec]
      exact head_len _ d2 d3
    rw [hh]
    simp only
    have ha : addHead ⟨acc, [], []⟩ ⟨lengthN, Lib.itoa (body.length : Int)⟩ = .ok ⟨acc, [Lib.itoa (body.length : Int)], []⟩ := by
      unfold addHead
      rw [if_pos (by rfl)]
      rfl
    rw [ha]
    simp only
    rw [show (13 :: 10 :: r : T) = [] ++ 13 :: 10 :: r from rfl, line_crlf [] r (by simp) (by simp)]
    simp only [if_true, List.append_nil]
  | h :: t, n, acc, ha, hl, hn => by
    obtain ⟨m, rfl⟩ : ∃ m, n = m + 1 := ⟨n - 1, by simp at hn; omega⟩
    simp only [List.all_cons, Bool.and_eq_true, Bool.not_eq_eq_eq_not, Bool.not_true] at ha
    simp only [List.length_cons] at hl hn
    have e1 : whds (h :: t) ++ (wlen body ++ 13 :: 10 :: 13 :: 10 :: r) = hline h ++ 13 :: 10 :: (whds t ++ (wlen body ++ 13 :: 10 :: 13 :: 10 :: r)) := by
      unfold whds; simp
    rw [e1, headsF_step m _ h _ ha.1 (by simp only; omega)]
    simp only
    rw [headsF_all body r hb t m (acc ++ [h]) ha.2 (by simp; omega) (by omega)]
    simp
theorem whds_len (hs : List Hd) : hs.length ≤ (whds hs).length := by
  induction hs with
  | nil => simp [whds]
  | cons h t ih =>
    have : whds (h :: t) = hline h ++ [13, 10] ++ whds t := rfl
    rw [this]
    simp only [List.length_append, List.length_cons, List.length_nil]
    omega
theorem heads_all (hs : List Hd) (body r : T) (hb : body.length ≤ 65536) (ha : hs.all (fun h => !isWrong h) = true) (hl : hs.length ≤ 64) :
    heads (whds hs ++ (wlen body ++ 13 :: 10 :: 13 :: 10 :: r)) = .ok (⟨hs, [Lib.itoa (body.length : Int)], []⟩, r) := by
  unfold heads
  have := whds_len hs
  rw [headsF_all body r hb hs _ [] ha (by simpa using hl) (by simp only [List.length_append, List.length_cons]; omega)]
  rfl
theorem body_behind (most : Int) (hs : List Hd) (body x : T) (h : body.length ≤ 65536) (hm : (body.length : Int) ≤ most) : H.body most ⟨hs, [Lib.itoa (body.length : Int)], []⟩ (body ++ x) = .ok (body, x) := by
  unfold H.body
  simp only [List.length_nil, List.length_cons, List.headD_cons]
  rw [if_neg (by decide), if_pos (by decide), if_pos (by decide), whole_len body h]
  simp only
  unfold part
  rw [if_neg (by simp; exact hm), if_neg (by simp)]
  simp
/- a request's first line -/
def firstOf (m t : T) : T := m ++ [32] ++ t ++ [32] ++ version
theorem req_first (m t r : T) (h1 : isOf m tok = true) (h2 : isOf t tgt = true) (hl : (firstOf m t).length ≤ 4096) : requestLine (firstOf m t ++ 13 :: 10 :: r) = .ok ((m, t), r) := by
  have hn : (10 : UInt8) ∉ firstOf m t := fun hm => by
    unfold firstOf at hm
    simp only [List.mem_append] at hm
    rcases hm with (((hm | hm) | hm) | hm) | hm
    · exact isOf_no h1 10 (by decide) hm
    · exact absurd hm (by decide)
    · exact isOf_no h2 10 (by decide) hm
    · exact absurd hm (by decide)
    · exact absurd hm (by decide)
  unfold requestLine
  rw [line_crlf _ _ hn hl]
  have c1 : Lib.cut (firstOf m t) [32] = (m, t ++ 32 :: version, true) := by
    have : firstOf m t = m ++ 32 :: (t ++ 32 :: version) := by unfold firstOf; simp
    rw [this]
    exact cut_one 32 m _ (isOf_no h1 32 (by decide))
  have c2 : Lib.cut (t ++ 32 :: version) [32] = (t, version, true) := cut_one 32 t _ (isOf_no h2 32 (by decide))
  simp only [c1, c2, h1, h2]
  rfl
theorem back_req (m t : T) (hs : List Hd) (body x : T) (h1 : isOf m tok = true) (h2 : isOf t tgt = true) (hw : wOk (firstOf m t) hs body) :
    readRequest (woutH (firstOf m t) hs body ++ x) 65536 = (⟨m, t, hs, body⟩, (woutH (firstOf m t) hs body).length, 0) := by
  obtain ⟨w1, w2, w3, w4⟩ := hw
  have e : woutH (firstOf m t) hs body ++ x = firstOf m t ++ 13 :: 10 :: (whds hs ++ (wlen body ++ 13 :: 10 :: 13 :: 10 :: (body ++ x))) := by unfold woutH; simp
  have hr : reqR 65536 (woutH (firstOf m t) hs body ++ x) = .ok (⟨m, t, hs, body⟩, x) := by
    unfold reqR
    rw [e, req_first m t _ h1 h2 w1]
    simp only
    rw [heads_all hs body _ w3 w4 w2]
    simp only
    rw [body_behind 65536 hs body x w3 (by omega)]
  unfold readRequest
  rw [if_pos (by decide), hr]
  simp only [List.length_append, Nat.add_sub_cancel]
/- a response's first line -/
def reason (n : Nat) : T :=
  if n = 200 then [79, 75]
  else if n = 400 then [66, 97, 100, 32, 82, 101, 113, 117, 101, 115, 116]
  else if n = 404 then [78, 111, 116, 32, 70, 111, 117, 110, 100]
  else if n = 405 then [77, 101, 116, 104, 111, 100, 32, 78, 111, 116, 32, 65, 108, 108, 111, 119, 101, 100]
  else if n = 408 then [82, 101, 113, 117, 101, 115, 116, 32, 84, 105, 109, 101, 111, 117, 116]
  else if n = 413 then [67, 111, 110, 116, 101, 110, 116, 32, 84, 111, 111, 32, 76, 97, 114, 103, 101]
  else if n = 415 then [85, 110, 115, 117, 112, 112, 111, 114, 116, 101, 100, 32, 77, 101, 100, 105, 97, 32, 84, 121, 112, 101]
  else if n = 429 then [84, 111, 111, 32, 77, 97, 110, 121, 32, 82, 101, 113, 117, 101, 115, 116, 115]
  else if n = 503 then [83, 101, 114, 118, 105, 99, 101, 32, 85, 110, 97, 118, 97, 105, 108, 97, 98, 108, 101]
  else [79, 116, 104, 101, 114]
theorem reason_ok (n : Nat) : (10 : UInt8) ∉ reason n ∧ (reason n).length ≤ 22 := by
  unfold reason
  repeat' split
  all_goals exact by decide
def firstRs (n : Nat) : T := version ++ [32] ++ Lib.itoa (n : Int) ++ [32] ++ reason n
theorem dig_eq : ∀ a b c d e f : Nat, True := fun _ _ _ _ _ _ => trivial
theorem dec3 (n : Nat) (h1 : 100 ≤ n) (h2 : n ≤ 599) : (Lib.decDigits n).length = 3 := by
  rw [Lib.decDigits_length, Lib.nDigits_big (by omega), Lib.nDigits_big (by omega), Lib.nDigits_small (by omega)]
theorem status_first (n : Nat) (r : T) (h1 : 100 ≤ n) (h2 : n ≤ 599) : statusLine (firstRs n ++ 13 :: 10 :: r) = .ok (n, r) := by
  obtain ⟨d1, d2, d3⟩ := dec_all n (by omega)
  have d4 := dec3 n h1 h2
  obtain ⟨rn, rl⟩ := reason_ok n
  have hn : (10 : UInt8) ∉ firstRs n := fun hm => by
    unfold firstRs at hm
    simp only [List.mem_append] at hm
    rcases hm with (((hm | hm) | hm) | hm) | hm
    · exact absurd hm (by decide)
    · exact absurd hm (by decide)
    · rw [itoa_dec] at hm; have := d2 10 hm; simp at this
    · exact absurd hm (by decide)
    · exact rn hm
  have hl : (firstRs n).length ≤ 4096 := by
    have h8 : version.length = 8 := rfl
    unfold firstRs
    rw [itoa_dec]
    simp only [List.length_append, h8, d4, List.length_cons, List.length_nil]
    omega
  unfold statusLine
  rw [line_crlf _ _ hn hl]
  have e : firstRs n = (version ++ [32]) ++ (Lib.itoa (n : Int) ++ 32 :: reason n) := by unfold firstRs; simp
  have p1 : Lib.hasPrefix (firstRs n) (version ++ [32]) = true := by
    rw [e]; unfold Lib.hasPrefix; exact List.isPrefixOf_iff_prefix.2 ⟨_, rfl⟩
  have p2 : Lib.trimPrefix (firstRs n) (version ++ [32]) = Lib.itoa (n : Int) ++ 32 :: reason n := by
    unfold Lib.trimPrefix; rw [if_pos p1, e, List.drop_append, List.drop_of_length_le (Nat.le_refl _)]; simp
  have c1 : Lib.cut (Lib.itoa (n : Int) ++ 32 :: reason n) [32] = (Lib.itoa (n : Int), reason n, true) := cut_one 32 _ _ (by rw [itoa_dec]; intro hm; have := d2 32 hm; simp at this)
  simp only [p1, p2, c1]
  rw [if_pos (by rw [itoa_dec, d4]; rfl)]
  have hw : whole10 (Lib.itoa (n : Int)) 3 = .ok n := by
    unfold whole10 wholeO
    rw [itoa_dec, if_pos (by omega)]
    unfold decO Lib.parseUintB
    rw [if_neg d3, show (2 ^ 64 - 1 : Nat) = 18446744073709551615 from rfl, d1]
  rw [hw]
  simp only
  rw [if_pos ⟨h1, h2⟩]
theorem back_res (n : Nat) (hs : List Hd) (body x : T) (h1 : 100 ≤ n) (h2 : n ≤ 599) (w2 : hs.length ≤ 64) (w3 : body.length ≤ 65536) (w4 : hs.all (fun h => !isWrong h) = true) :
    readResponse (woutH (firstRs n) hs body ++ x) 65536 = (⟨n, hs, body⟩, (woutH (firstRs n) hs body).length, 0) := by
  have e : woutH (firstRs n) hs body ++ x = firstRs n ++ 13 :: 10 :: (whds hs ++ (wlen body ++ 13 :: 10 :: 13 :: 10 :: (body ++ x))) := by unfold woutH; simp
  have hr : resR 65536 (woutH (firstRs n) hs body ++ x) = .ok (⟨n, hs, body⟩, x) := by
    unfold resR
    rw [e, status_first n _ h1 h2]
    simp only
    rw [heads_all hs body _ w3 w4 w2]
    simp only
    rw [if_pos (by simp), body_behind 65536 hs body x w3 (by omega)]
  unfold readResponse
  rw [if_pos (by decide), hr]
  simp only [List.length_append, Nat.add_sub_cancel]
theorem firstRs_len (n : Nat) (h2 : n ≤ 599) : (firstRs n).length ≤ 100 := by
  have h8 : version.length = 8 := rfl
  obtain ⟨rn, rl⟩ := reason_ok n
  have h9 := dec_len n (by omega)
  unfold firstRs
  rw [itoa_dec]
  simp only [List.length_append, h8, List.length_cons, List.length_nil]
  omega
theorem woutH_len (first : T) (hs : List Hd) (body : T) (hw : wOk first hs body) : (woutH first hs body).length ≤ 400000 := by
  obtain ⟨w1, w2, w3, w4⟩ := hw
  have h5 := (wlen_no body w3).2.1
  have key : ∀ l : List Hd, l.all (fun h => !isWrong h) = true → (whds l).length ≤ 4098 * l.length := by
    intro l
    induction l with
    | nil => simp [whds]
    | cons h t ih =>
      intro ha
      simp only [List.all_cons, Bool.and_eq_true, Bool.not_eq_eq_eq_not, Bool.not_true] at ha
      have h1 := (hline_no ha.1).2.1
      have h2 := ih ha.2
      have : whds (h :: t) = hline h ++ [13, 10] ++ whds t := rfl
      rw [this]
      simp only [List.length_append, List.length_cons, List.length_nil]
      omega
  have := key hs w4
  unfold woutH
  simp only [List.length_append, List.length_cons]
  omega
/- letters of either case -/
def up (b : UInt8) : UInt8 := if 97 ≤ b.toNat ∧ b.toNat ≤ 122 then b - 32 else b
theorem small_up : ∀ b : UInt8, small (up b).toNat = small b.toNat := by
  intro b
  unfold up
  split
  · rename_i h
    have : (b - 32).toNat = b.toNat - 32 := by rw [UInt8.toNat_sub_of_le]; rfl; rw [UInt8.le_iff_toNat_le]; show 32 ≤ b.toNat; omega
    rw [this]
    unfold small
    rw [if_pos (by omega), if_neg (by omega)]
    omega
  · rfl
theorem alike_up : ∀ (a b : T), alike a (b.map up) = alike a b
  | [], [] => rfl
  | [], _ :: _ => rfl
  | _ :: _, [] => rfl
  | a :: s, b :: t => by
    simp only [List.map_cons, alike, small_up, alike_up s t]
end H
end Go.Proofs.YtjkinjfbjbehjaaGreatDoor

/- HTTP: OF WHAT IS READ, EACH BEGINNING; WHAT COMES BEHIND (mathematics). -/
namespace Go.Proofs.YtjkinjfbjbehjaaGreatDoor
set_option linter.unusedVariables false
set_option linter.unusedSimpArgs false
set_option maxRecDepth 100000
namespace H
structure GoodAt {α : Type} (f : T → R α) (l : T) : Prop where
  one : ∀ a r, f l = .ok (a, r) → ∃ m, l = m ++ r ∧ (∀ x, f (m ++ x) = .ok (a, x)) ∧ ∀ k, k < m.length → f (m.take k) = .error 14
  bad : ∀ e, f l = .error e → e ≠ 14 → ∀ x, f (l ++ x) = .error e
theorem good_bind {α β : Type} {f : T → R α} {g : α → T → R β} {h : T → R β} (h2 : ∀ l, (∀ e, f l = .error e → h l = .error e) ∧ ∀ a r, f l = .ok (a, r) → h l = g a r) (hf : ∀ l, GoodAt f l) (l : T) (hg : ∀ a r, f l = .ok (a, r) → GoodAt (g a) r) : GoodAt h l := by
  have hh : ∀ l, h l = match f l with | .error e => .error e | .ok (a, r) => g a r := fun l => by
    cases hl : f l with
    | error e => exact (h2 l).1 e hl
    | ok p => exact (h2 l).2 p.1 p.2 hl
  clear h2
  refine ⟨fun a r e => ?_, fun e he hne x => ?_⟩
  · rw [hh] at e
    cases hfl : f l with
    | error c => rw [hfl] at e; cases e
    | ok p =>
      obtain ⟨b, s⟩ := p
      rw [hfl] at e
      simp only at e
      obtain ⟨m1, e1, h1, k1⟩ := (hf l).one b s hfl
      obtain ⟨m2, e2, h2, k2⟩ := (hg b s hfl).one a r e
      refine ⟨m1 ++ m2, by rw [e1, e2, List.append_assoc], fun x => ?_, fun k hk => ?_⟩
      · rw [hh, List.append_assoc, h1]
        exact h2 x
      · rw [hh, List.take_append]
        by_cases hk1 : k < m1.length
        · rw [show k - m1.length = 0 from by omega, List.take_zero, List.append_nil, k1 k hk1]
        · rw [List.take_of_length_le (by omega), h1]
          exact k2 _ (by simp at hk; omega)
  · rw [hh] at he ⊢
    cases hfl : f l with
    | error c =>
      rw [hfl] at he
      simp only [Except.error.injEq] at he
      subst he
      rw [(hf l).bad _ hfl hne x]
    | ok p =>
      obtain ⟨b, s⟩ := p
      rw [hfl] at he
      simp only at he
      obtain ⟨m1, e1, h1, k1⟩ := (hf l).one b s hfl
      rw [e1, List.append_assoc, h1]
      exact (hg b s hfl).bad e he hne x
theorem good_pure {α : Type} (a : α) (l : T) : GoodAt (fun l => (.ok (a, l) : R α)) l := by
  refine ⟨fun b r e => ?_, fun e he _ _ => by cases he⟩
  simp only [Except.ok.injEq, Prod.mk.injEq] at e
  obtain ⟨rfl, rfl⟩ := e
  exact ⟨[], rfl, fun x => rfl, fun k hk => by simp at hk⟩
theorem good_error {α : Type} (e : Int) (l : T) : GoodAt (fun _ => (.error e : R α)) l :=
  ⟨fun a r h => (by cases h), fun e' he _ x => he⟩
theorem good_except {α : Type} (c : Except Int α) (l : T) : GoodAt (fun l => (match c with | .error e => .error e | .ok a => .ok (a, l) : R α)) l := by
  cases c with
  | error e => exact good_error e l
  | ok a => exact good_pure a l
/- the line -/
theorem idx_app (a b : T) (c : UInt8) (h : 0 ≤ Lib.indexByte a c) : Lib.indexByte (a ++ b) c = Lib.indexByte a c := by
  induction a with
  | nil => simp [Lib.indexByte] at h
  | cons x t ih =>
    simp only [List.cons_append, Lib.indexByte] at h ⊢
    by_cases hx : x = c
    · simp [hx]
    · simp only [beq_iff_eq, hx, if_false] at h ⊢
      by_cases h1 : Lib.indexByte t c = -1
      · rw [h1] at h; simp at h
      · have h2 : 0 ≤ Lib.indexByte t c := by
          rcases idx_cases t c with h3 | ⟨n, h3, _⟩
          · exact absurd h3 h1
          · omega
        rw [ih h2]
theorem idx_none (a : T) (c : UInt8) (h : c ∉ a) : Lib.indexByte a c = -1 := by
  induction a with
  | nil => rfl
  | cons x t ih =>
    have hx : ¬ x = c := fun e => h (by simp [e])
    simp only [Lib.indexByte, beq_iff_eq, hx, if_false, ih (fun e => h (by simp [e]))]
    rfl
theorem idx_split : ∀ (a : T) (c : UInt8) (n : Nat), Lib.indexByte a c = (n : Int) → c ∉ a.take n ∧ a.take (n + 1) = a.take n ++ [c]
  | [], c, n, h => by simp [Lib.indexByte] at h <;> omega
  | x :: t, c, n, h => by
    simp only [Lib.indexByte, beq_iff_eq] at h
    by_cases hx : x = c
    · subst hx
      rw [if_pos rfl] at h
      obtain rfl : n = 0 := by omega
      exact ⟨by simp, by simp⟩
    · rw [if_neg hx] at h
      rcases idx_cases t c with h3 | ⟨k, h3, _⟩
      · rw [h3] at h; simp at h <;> omega
      · rw [h3, if_neg (by omega)] at h
        obtain rfl : n = k + 1 := by omega
        obtain ⟨i1, i2⟩ := idx_split t c k h3
        refine ⟨?_, by rw [List.take_succ_cons, i2, List.take_succ_cons]; rfl⟩
        rw [List.take_succ_cons]
        simp only [List.mem_cons, not_or]
        exact ⟨fun e => hx e.symm, i1⟩
theorem line_ok {l t r : T} (h : line l = .ok (t, r)) : l = t ++ 13 :: 10 :: r ∧ (10 : UInt8) ∉ t ∧ t.length ≤ 4096 := by
  unfold line at h
  simp only at h
  split at h
  · cases h
  · split at h
    · cases h
    · split at h
      · rename_i h1 h2 h3
        simp only [Except.ok.injEq, Prod.mk.injEq] at h
        obtain ⟨h4, h5⟩ := h
        rcases idx_cases (l.take 4098) 10 with h6 | ⟨n, h6, hn⟩
        · omega
        rw [h6] at h3 h4 h5
        simp only [Int.toNat_natCast] at h3 h4 h5
        rw [List.length_take] at hn
        obtain ⟨i1, i2⟩ := idx_split _ _ _ h6
        rw [List.take_take, Nat.min_eq_left (by omega)] at i1 i2
        rw [List.take_take, Nat.min_eq_left (by omega)] at i2
        unfold Lib.trimSuffix at h4
        rw [if_pos h3, i2] at h4
        unfold Lib.hasSuffix at h3
        obtain ⟨u, hu⟩ := List.isSuffixOf_iff_suffix.1 h3
        have hl2 : (l.take n).length = n := by rw [List.length_take]; omega
        rw [i2] at hu
        have hu2 : u ++ [13] = l.take n := by
          have : (u ++ [13]) ++ [10] = l.take n ++ [10] := by rw [← hu]; simp
          exact List.append_cancel_right this
        have h7 : t = u := by
          rw [← h4, ← hu2]
          simp
        subst h7
        have hlen : t.length + 1 = n := by rw [← hl2, ← hu2]; simp
        refine ⟨?_, fun hm => i1 (by rw [← hu2]; simp [hm]), by omega⟩
        calc l = l.take (n + 1) ++ l.drop (n + 1) := (List.take_append_drop _ _).symm
          _ = t ++ 13 :: 10 :: r := by rw [i2, ← hu2, h5]; simp
      · cases h
theorem line_more (a : T) (h : (10 : UInt8) ∉ a) (hl : a.length < 4098) : line a = .error 14 := by
  unfold line
  have : Lib.indexByte (a.take 4098) 10 = -1 := idx_none _ _ (fun hm => h (List.mem_of_mem_take hm))
  simp only [this]
  rw [if_neg (by omega), if_pos (by omega)]
theorem good_line (l : T) : GoodAt line l := by
  refine ⟨fun t r h => ?_, fun e he hne x => ?_⟩
  · obtain ⟨h1, h2, h3⟩ := line_ok h
    refine ⟨t ++ [13, 10], by rw [h1]; simp, fun x => ?_, fun k hk => ?_⟩
    · have := line_crlf t x h2 h3
      simpa using this
    · refine line_more _ (fun hm => ?_) (by simp only [List.length_take, List.length_append, List.length_cons, List.length_nil] at hk ⊢; omega)
      simp only [List.length_append, List.length_cons, List.length_nil] at hk
      rw [List.take_append] at hm
      rcases List.mem_append.1 hm with hm | hm
      · exact h2 (List.mem_of_mem_take hm)
      · have : k - t.length ≤ 1 := by omega
        have h9 : (10 : UInt8) ∈ ([13] : T) := by
          have e1 : ([13, 10] : T).take (k - t.length) = ([13] : T).take (k - t.length) := by
            rcases Nat.le_one_iff_eq_zero_or_eq_one.1 this with h | h <;> rw [h] <;> rfl
          rw [e1] at hm
          exact List.mem_of_mem_take hm
        simp at h9
  · unfold line at he ⊢
    simp only at he ⊢
    split at he
    · rename_i h1
      simp only [Except.error.injEq] at he
      subst he
      have e1 : (l ++ x).take 4098 = l.take 4098 := by rw [List.take_append, show 4098 - l.length = 0 from by omega]; simp
      rw [e1, if_pos ⟨h1.1, by simp; omega⟩]
    · rename_i h1
      split at he
      · simp only [Except.error.injEq] at he; exact absurd he.symm hne
      · rename_i h2
        have h2 : 0 ≤ Lib.indexByte (l.take 4098) 10 := by omega
        rcases idx_cases (l.take 4098) 10 with h6 | ⟨n, h6, hn⟩
        · omega
        rw [List.length_take] at hn
        have e1 : Lib.indexByte ((l ++ x).take 4098) 10 = Lib.indexByte (l.take 4098) 10 := by
          rw [List.take_append]; exact idx_app _ _ _ h2
        rw [e1, h6]
        rw [h6] at he
        have e2 : (l ++ x).take (((n : Nat) : Int).toNat + 1) = l.take (((n : Nat) : Int).toNat + 1) := by
          rw [List.take_append, show ((n : Nat) : Int).toNat + 1 - l.length = 0 from by simp; omega]; simp
        split at he
        · cases he
        · rename_i h3
          rw [if_neg (by omega), if_neg (by omega), e2, if_neg h3]
          exact he
/- what has so many bytes -/
theorem good_part (most : Int) (n a : Nat) (l : T) : GoodAt (part most n a) l := by
  refine ⟨fun t r h => ?_, fun e he hne x => ?_⟩
  · unfold part at h
    split at h
    · cases h
    · split at h
      · cases h
      · rename_i h1 h2
        simp only [Except.ok.injEq, Prod.mk.injEq] at h
        obtain ⟨rfl, rfl⟩ := h
        have hl : (l.take n).length = n := by rw [List.length_take]; omega
        refine ⟨l.take n, (List.take_append_drop _ _).symm, fun x => ?_, fun k hk => ?_⟩
        · unfold part
          rw [if_neg h1, if_neg (by rw [List.length_append, hl]; omega), List.take_append_of_le_length (by omega), List.take_of_length_le (by omega)]
          rw [List.drop_append, hl, List.drop_of_length_le (by omega)]
          simp
        · unfold part
          rw [if_neg h1, if_pos (by rw [List.length_take, hl]; omega)]
  · unfold part at he ⊢
    split at he
    · rename_i h1
      rw [if_pos h1]; exact he
    · split at he
      · simp only [Except.error.injEq] at he; exact absurd he.symm hne
      · cases he
theorem good_end (l : T) : GoodAt endR l := by
  refine ⟨fun t r h => ?_, fun e he hne x => ?_⟩
  · match l, h with
    | [], h => cases h
    | [a], h =>
      simp only [endR] at h
      split at h <;> cases h
    | a :: b :: u, h =>
      simp only [endR] at h
      split at h
      · rename_i h1
        split at h
        · rename_i h2
          simp only [Except.ok.injEq, Prod.mk.injEq] at h
          obtain ⟨_, rfl⟩ := h
          subst h1 h2
          refine ⟨[13, 10], rfl, fun x => by simp [endR], fun k hk => ?_⟩
          simp only [List.length_cons, List.length_nil] at hk
          rcases Nat.le_one_iff_eq_zero_or_eq_one.1 (by omega : k ≤ 1) with h | h <;> subst h <;> simp [endR]
        · cases h
      · cases h
  · match l, he with
    | [], he => simp only [endR, Except.error.injEq] at he; exact absurd he.symm hne
    | [a], he =>
      simp only [endR] at he
      split at he
      · simp only [Except.error.injEq] at he; exact absurd he.symm hne
      · rename_i h1
        cases x <;> simp only [List.cons_append, List.nil_append, endR, if_neg h1] <;> exact he
    | a :: b :: u, he =>
      simp only [List.cons_append, endR] at he ⊢
      split at he
      · rename_i h1
        rw [if_pos h1]
        split at he
        · cases he
        · rename_i h2
          rw [if_neg h2]; exact he
      · rename_i h1
        rw [if_neg h1]; exact he
end H
end Go.Proofs.YtjkinjfbjbehjaaGreatDoor

/- HTTP: OF A REQUEST, EACH BEGINNING; WHAT COMES BEHIND (mathematics). -/
namespace Go.Proofs.YtjkinjfbjbehjaaGreatDoor
set_option linter.unusedVariables false
set_option linter.unusedSimpArgs false
set_option maxRecDepth 100000
namespace H
theorem GoodAt.congr {α : Type} {f g : T → R α} (h : ∀ l, f l = g l) {l : T} (hg : GoodAt g l) : GoodAt f l := by
  have : f = g := funext h
  rw [this]; exact hg
/- the heads -/
def headsW (f : Fr) (l : T) : R Fr := headsF (l.length + 1) f l
theorem headsF_fuel : ∀ (n m : Nat) (f : Fr) (l : T), l.length < n → l.length < m → headsF n f l = headsF m f l
  | 0, _, _, _, h, _ => absurd h (by omega)
  | _ + 1, 0, _, _, _, h => absurd h (by omega)
  | n + 1, m + 1, f, l, h1, h2 => by
    simp only [headsF]
    cases hl : line l with
    | error e => rfl
    | ok p =>
      obtain ⟨t, r⟩ := p
      have := (line_len hl).2.1
      simp only
      split
      · rfl
      · split
        · rfl
        · split
          · rfl
          · exact headsF_fuel n m _ r (by omega) (by omega)
def headsK (f : Fr) (t r : T) : R Fr :=
  if t = [] then .ok (f, r)
  else match head t with
    | .error e => .error e
    | .ok h => match addHead f h with
      | .error e => .error e
      | .ok f' => headsW f' r
theorem headsW_eq (f : Fr) (l : T) : (∀ e, line l = .error e → headsW f l = .error e) ∧ ∀ t r, line l = .ok (t, r) → headsW f l = headsK f t r := by
  refine ⟨fun e he => by unfold headsW; simp only [headsF, he], fun t r hl => ?_⟩
  have := (line_len hl).2.1
  unfold headsW headsK
  simp only [headsF, hl]
  split
  · rfl
  · cases hh : head t with
    | error e => rfl
    | ok d =>
      simp only
      cases ha : addHead f d with
      | error e => rfl
      | ok f' => exact headsF_fuel _ _ _ r (by omega) (by omega)
theorem good_heads : ∀ (N : Nat) (f : Fr) (l : T), l.length < N → GoodAt (headsW f) l
  | 0, _, _, h => absurd h (by omega)
  | N + 1, f, l, h => by
    refine good_bind (headsW_eq f) good_line l fun t r hl => ?_
    have hr := (line_len hl).2.1
    by_cases ht : t = []
    · exact GoodAt.congr (g := fun l => .ok (f, l)) (fun l => by unfold headsK; rw [if_pos ht]) (good_pure f r)
    · cases hh : head t with
      | error e => exact GoodAt.congr (g := fun l => .error e) (fun l => by unfold headsK; rw [if_neg ht, hh]) (good_error e r)
      | ok d =>
        cases ha : addHead f d with
        | error e => exact GoodAt.congr (g := fun l => .error e) (fun l => by unfold headsK; rw [if_neg ht, hh]; simp only [ha]) (good_error e r)
        | ok f' => exact GoodAt.congr (g := headsW f') (fun l => by unfold headsK; rw [if_neg ht, hh]; simp only [ha]) (good_heads N f' r (by omega))
theorem good_headsR (l : T) : GoodAt heads l := good_heads (l.length + 1) ⟨[], [], []⟩ l (by omega)
/- the chunks -/
def sizeK (t r : T) : R Nat := match whole16 (Lib.cut t [59]).1 with | .error e => .error e | .ok n => .ok (n, r)
theorem good_size (l : T) : GoodAt chunkSize l := by
  refine good_bind (g := sizeK) (fun l => ⟨fun e he => by unfold chunkSize; simp only [he], fun t r hl => by unfold chunkSize sizeK; simp only [hl]; cases whole16 (Lib.cut t [59]).1 <;> rfl⟩) good_line l fun t r hl => ?_
  exact GoodAt.congr (g := fun l => (match whole16 (Lib.cut t [59]).1 with | .error e => .error e | .ok a => .ok (a, l) : R Nat)) (fun l => by unfold sizeK; cases whole16 (Lib.cut t [59]).1 <;> rfl) (by cases whole16 (Lib.cut t [59]).1 with | error e => exact good_error e r | ok n => exact good_pure n r)
def chunksW (most : Int) (acc l : T) : R T := chunksF most (l.length + 1) acc l
theorem chunksF_fuel (most : Int) : ∀ (n m : Nat) (acc l : T), l.length < n → l.length < m → chunksF most n acc l = chunksF most m acc l
  | 0, _, _, _, h, _ => absurd h (by omega)
  | _ + 1, 0, _, _, _, h => absurd h (by omega)
  | n + 1, m + 1, acc, l, h1, h2 => by
    simp only [chunksF]
    cases hl : chunkSize l with
    | error e => rfl
    | ok p =>
      obtain ⟨t, r⟩ := p
      have := chunkSize_len hl
      simp only
      split
      · rfl
      · cases hp : part most t acc.length r with
        | error e => rfl
        | ok q =>
          obtain ⟨p, r'⟩ := q
          have := part_len hp
          simp only
          cases he : endR r' with
          | error e => rfl
          | ok q =>
            obtain ⟨u, r''⟩ := q
            have := end_len he
            exact chunksF_fuel most n m _ r'' (by omega) (by omega)
def chunksE (most : Int) (acc p l : T) : R T := match endR l with | .error e => .error e | .ok (_, r) => chunksW most (acc ++ p) r
def chunksP (most : Int) (acc : T) (n : Nat) (l : T) : R T := match part most n acc.length l with | .error e => .error e | .ok (p, r) => chunksE most acc p r
def chunksH (acc l : T) : R T := match heads l with | .error e => .error e | .ok (_, r) => .ok (acc, r)
def chunksK (most : Int) (acc : T) (n : Nat) (l : T) : R T := if n = 0 then chunksH acc l else chunksP most acc n l
theorem chunksW_eq (most : Int) (acc l : T) : (∀ e, chunkSize l = .error e → chunksW most acc l = .error e) ∧ ∀ n r, chunkSize l = .ok (n, r) → chunksW most acc l = chunksK most acc n r := by
  refine ⟨fun e he => by unfold chunksW; simp only [chunksF, he], fun t r hl => ?_⟩
  have := chunkSize_len hl
  unfold chunksW chunksK
  simp only [chunksF, hl]
  split
  · unfold chunksH
    cases heads r <;> rfl
  · unfold chunksP
    cases hp : part most t acc.length r with
    | error e => rfl
    | ok q =>
      obtain ⟨p, r'⟩ := q
      have := part_len hp
      unfold chunksE
      simp only
      cases he : endR r' with
      | error e => rfl
      | ok q =>
        obtain ⟨u, r''⟩ := q
        have := end_len he
        exact chunksF_fuel most _ _ _ r'' (by omega) (by omega)
theorem good_chunks (most : Int) : ∀ (N : Nat) (acc l : T), l.length < N → GoodAt (chunksW most acc) l
  | 0, _, _, h => absurd h (by omega)
  | N + 1, acc, l, h => by
    refine good_bind (chunksW_eq most acc) good_size l fun n r hl => ?_
    have hr := chunkSize_len hl
    by_cases h0 : n = 0
    · refine GoodAt.congr (g := chunksH acc) (fun l => by unfold chunksK; rw [if_pos h0]) ?_
      exact good_bind (g := fun _ r => .ok (acc, r)) (fun l => ⟨fun e he => by unfold chunksH; simp only [he], fun a r ho => by unfold chunksH; simp only [ho]⟩) good_headsR r fun _ r' _ => good_pure acc r'
    · refine GoodAt.congr (g := chunksP most acc n) (fun l => by unfold chunksK; rw [if_neg h0]) ?_
      refine good_bind (g := chunksE most acc) (fun l => ⟨fun e he => by unfold chunksP; simp only [he], fun a r ho => by unfold chunksP; simp only [ho]⟩) (good_part most n acc.length) r fun p r' hp => ?_
      have hr' := part_len hp
      refine good_bind (g := fun _ r => chunksW most (acc ++ p) r) (fun l => ⟨fun e he => by unfold chunksE; simp only [he], fun a r ho => by unfold chunksE; simp only [ho]⟩) good_end r' fun u r'' he => ?_
      have := end_len he
      exact good_chunks most N _ r'' (by omega)
theorem good_body (most : Int) (f : Fr) (l : T) : GoodAt (body most f) l := by
  unfold body
  by_cases h1 : 0 < f.cods.length
  · simp only [if_pos h1]
    split
    · exact good_chunks most (l.length + 1) [] l (by omega)
    · exact good_error 13 l
  · simp only [if_neg h1]
    split
    · split
      · cases hw : whole10 (f.lens.headD []) 9 with
        | error e => exact good_error e l
        | ok n => exact good_part most n 0 l
      · exact good_error 13 l
    · exact good_pure [] l
theorem good_reqLine (l : T) : GoodAt requestLine l := by
  refine good_bind (g := fun t r => if isOf (Lib.cut t [32]).1 tok && isOf (Lib.cut (Lib.cut t [32]).2.1 [32]).1 tgt && decide ((Lib.cut (Lib.cut t [32]).2.1 [32]).2.1 = version) then .ok (((Lib.cut t [32]).1, (Lib.cut (Lib.cut t [32]).2.1 [32]).1), r) else .error 13) (fun l => ⟨fun e he => by unfold requestLine; simp only [he], fun a r ho => by unfold requestLine; simp only [ho]⟩) good_line l fun t r hl => ?_
  by_cases hc : (isOf (Lib.cut t [32]).1 tok && isOf (Lib.cut (Lib.cut t [32]).2.1 [32]).1 tgt && decide ((Lib.cut (Lib.cut t [32]).2.1 [32]).2.1 = version)) = true
  · simp only [if_pos hc]; exact good_pure _ r
  · simp only [if_neg hc]; exact good_error 13 r
def reqB (most : Int) (m t : T) (f : Fr) (l : T) : R Rq := match body most f l with | .error e => .error e | .ok (b, r) => .ok (⟨m, t, f.hs, b⟩, r)
def reqH (most : Int) (mt : T × T) (l : T) : R Rq := match heads l with | .error e => .error e | .ok (f, r) => reqB most mt.1 mt.2 f r
theorem good_req (most : Int) (l : T) : GoodAt (reqR most) l := by
  refine good_bind (g := reqH most) (fun l => ⟨fun e he => by unfold reqR; simp only [he], fun a r ho => ?_⟩) good_reqLine l fun mt r _ => ?_
  · unfold reqR reqH reqB
    obtain ⟨m, t⟩ := a
    simp only [ho]
    cases heads r with
    | error e => rfl
    | ok q =>
      obtain ⟨f, r'⟩ := q
      simp only
      cases body most f r' <;> rfl
  refine good_bind (g := fun f r => reqB most mt.1 mt.2 f r) (fun l => ⟨fun e he => by unfold reqH; simp only [he], fun a r ho => by unfold reqH; simp only [ho]⟩) good_headsR r fun f r' _ => ?_
  exact good_bind (g := fun b r => .ok (⟨mt.1, mt.2, f.hs, b⟩, r)) (fun l => ⟨fun e he => by unfold reqB; simp only [he], fun a r ho => by unfold reqB; simp only [ho]⟩) (good_body most f) r' fun b r'' _ => good_pure _ r''
/- as the law asks -/
theorem bits_more (l x : T) (most : Int) (hm : okMost most) (q : Rq) (r : T) (h : reqR most l = .ok (q, r)) :
    readRequest l most = (q, l.length - r.length, 0) ∧ r.length ≤ l.length ∧ readRequest (l ++ x) most = (q, l.length - r.length, 0) ∧ ∀ k, k < l.length - r.length → (readRequest (l.take k) most).2.2 = 14 := by
  obtain ⟨m, e, h1, h2⟩ := (good_req most l).one q r h
  have hr : l.length - r.length = m.length := by rw [e, List.length_append]; omega
  refine ⟨by unfold readRequest; rw [if_pos hm, h], by rw [e, List.length_append]; omega, ?_, fun k hk => ?_⟩
  · unfold readRequest
    rw [if_pos hm, e, List.append_assoc, h1 (r ++ x)]
    simp only [List.length_append, Prod.mk.injEq, and_true, true_and]
    omega
  · unfold readRequest
    rw [hr] at hk
    have : l.take k = m.take k := by rw [e, List.take_append_of_le_length (by omega)]
    rw [if_pos hm, this, h2 k hk]
theorem bits_bad (l x : T) (most : Int) (hm : okMost most) (c : Int) (h : reqR most l = .error c) (hc : c ≠ 14) : (readRequest (l ++ x) most).2.2 = c := by
  unfold readRequest
  rw [if_pos hm, (good_req most l).bad c h hc x]
end H
end Go.Proofs.YtjkinjfbjbehjaaGreatDoor

/- HTTP: THE WALK OVER SameHeads, SameRequest, of two that are one. -/
namespace Go.Proofs.YtjkinjfbjbehjaaGreatDoor
open Go.RowKit
set_option maxRecDepth 100000
set_option linter.unusedVariables false
set_option linter.unusedSimpArgs false

theorem H.headsF_most : ∀ (n : Nat) (f f' : H.Fr) (l r : H.T), H.headsF n f l = .ok (f', r) → f.hs.length ≤ 64 → f'.hs.length ≤ 64
  | 0, _, _, _, _, h, _ => by cases h
  | n + 1, f, f', l, r, h, hf => by
    simp only [H.headsF] at h
    split at h
    · cases h
    · split at h
      · injection h with h; injection h with h1 h2; subst h1; exact hf
      · split at h
        · cases h
        · split at h
          · cases h
          · rename_i h3 _ _ h4
            refine H.headsF_most n _ f' _ r h ?_
            unfold H.addHead at h4
            split at h4
            · injection h4 with h4; subst h4; exact hf
            · split at h4
              · injection h4 with h4; subst h4; exact hf
              · split at h4
                · injection h4 with h4; subst h4; simp; omega
                · cases h4
theorem H.req_most {most : Int} {l r : H.T} {q : H.Rq} (h : H.reqR most l = .ok (q, r)) : q.hs.length ≤ 64 := by
  unfold H.reqR at h
  split at h
  · cases h
  · split at h
    · cases h
    · rename_i hh
      split at h
      · cases h
      · injection h with h; injection h with h1 h2; subst h1
        exact H.headsF_most _ _ _ _ _ hh (by simp)
/-- the heads stand there -/
def Hds (w : World) (ad : Option Addr) (hs : List H.Hd) : Prop := hs ≠ [] → ∃ g off, ad = some ⟨g, off, none⟩ ∧ g < w.heap.size ∧ ∀ i h, hs[i]? = some h → w.cell? ⟨g, off + i * 2, none⟩ = some (S h.name) ∧ w.cell? ⟨g, off + i * 2 + 1, none⟩ = some (S h.value)
theorem Hds.under {w w' : World} {ad : Option Addr} {hs : List H.Hd} (h : Hds w ad hs) (hb : Below w.heap.size w w') : Hds w' ad hs := fun hne => by
  obtain ⟨g, off, e, hg, hc⟩ := h hne
  refine ⟨g, off, e, Nat.lt_of_lt_of_le hg hb.size, fun i x hx => ?_⟩
  obtain ⟨a, b⟩ := hc i x hx
  exact ⟨(hb.cell (p := ⟨g, off + i * 2, none⟩) hg).trans a, (hb.cell (p := ⟨g, off + i * 2 + 1, none⟩) hg).trans b⟩
theorem flat_at : ∀ (hs : List H.Hd) (i : Nat) (h : H.Hd), hs[i]? = some h → (hs.flatMap hcells)[i * 2]? = some (S h.name) ∧ (hs.flatMap hcells)[i * 2 + 1]? = some (S h.value)
  | [], i, h, e => by simp at e
  | x :: t, 0, h, e => by simp at e; subst e; simp [hcells]
  | x :: t, i + 1, h, e => by
    have := flat_at t i h (by simpa using e)
    rw [show (i + 1) * 2 = i * 2 + 2 from by omega]
    simpa [hcells, List.flatMap_cons] using this
theorem HRow.hds {w : World} {B : Nat} {ad : Option Addr} {n cap : Nat} {hs : List H.Hd} (h : HRow w B (.slice ad n cap) hs) : n = hs.length ∧ Hds w ad hs := by
  obtain ⟨ad', cap', e⟩ := row_form h
  injection e with e1 e2 e3
  refine ⟨e2, fun hne => ?_⟩
  cases hs with
  | nil => exact absurd rfl hne
  | cons x t =>
    have h' := h
    rcases h'.2 with ⟨hv, hn⟩ | ⟨g, cap, cur, hv, hbg, hg, _⟩
    · simp at hn
    injection hv with e4 e5 e6
    subst e4 e5 e6
    refine ⟨g, 0, rfl, blk_lt hg, fun i y hy => ?_⟩
    have hi := (List.getElem?_eq_some_iff.1 hy).1
    obtain ⟨f1, f2⟩ := flat_at _ i y hy
    have hlen : (x :: t).length = t.length + 1 := rfl
    refine ⟨?_, ?_⟩
    · have := World.ownsRow.cellAt h (i * 2) (by omega)
      rw [Nat.zero_add, this]; exact f1
    · have := World.ownsRow.cellAt h (i * 2 + 1) (by omega)
      rw [Nat.zero_add, this]; exact f2
set_option maxHeartbeats 1000000 in
theorem same_any (w : World) (hs : List H.Hd) (a1 a2 : Option Addr) (c1 c2 : Nat) (hmx : hs.length ≤ 64) (h1 : Hds w a1 hs) (h2 : Hds w a2 hs) : Calls Tryz.prog 24 #[.slice a1 hs.length c1, .slice a2 hs.length c2] w fun e w' => e = .returned (.bool true) ∧ ∃ n, w' = w.drewN n := by
  obtain ⟨z, hz⟩ : ∃ z : Int, ((hs.length : Nat) : Int) = z := ⟨_, rfl⟩
  go_enter Tryz.func24, Tryz.ntmps24
  go_wp2
  go_loopw [13] (fun u wr => ∃ (j n : Nat), u = .int .i64 (j : Int) ∧ j ≤ hs.length ∧ wr = w.drewN n) (fun u _ => hs.length - (intOf u).toNat)
  case atStart => exact ⟨0, 0, rfl, Nat.zero_le _, rfl⟩
  case round =>
    obtain ⟨j, n, rfl, hj, rfl⟩ := hrel
    by_cases hlt : j < hs.length
    · have hjz : (j : Int) < z := by omega
      have hne : hs ≠ [] := by rintro rfl; simp at hlt
      obtain ⟨g1, o1, rfl, _, k1⟩ := h1 hne
      obtain ⟨g2, o2, rfl, _, k2⟩ := h2 hne
      obtain ⟨x, hx⟩ : ∃ x, hs[j]? = some x := ⟨_, List.getElem?_eq_getElem hlt⟩
      obtain ⟨p1, p2⟩ := k1 j x hx
      obtain ⟨q1, q2⟩ := k2 j x hx
      clear k1 k2
      go_wp2
      go_quiet (fail)
      go_wp2
      go_roundw
      case rel =>
        exact ⟨j + 1, _, by go_num, by omega, rfl⟩
      case measure => simp [intOf]; omega
    · have hjz : ¬ (j : Int) < z := by omega
      go_wp2
      go_ret
      exact ⟨rfl, _, rfl⟩
set_option maxHeartbeats 2000000 in
theorem sameReq_any (w : World) (m t b : H.T) (hs : List H.Hd) (a1 a2 : Option Addr) (n1 n2 c1 c2 : Nat) (hn1 : n1 = hs.length) (hn2 : n2 = hs.length) (hmx : hs.length ≤ 64) (h1 : Hds w a1 hs) (h2 : Hds w a2 hs) :
    Calls Tryz.prog 17 #[.agg #[S m, S t, .slice a1 n1 c1, S b], .agg #[S m, S t, .slice a2 n2 c2, S b]] w fun e w' => e = .returned (.bool true) ∧ Below w.heap.size w w' := by
  subst hn1 hn2
  obtain ⟨X, hX⟩ : ∃ X, X = (w.alloc (.cells #[S m, S t, .slice a1 hs.length c1, S b] 24)).alloc (.cells #[S m, S t, .slice a2 hs.length c2, S b] 24) := ⟨_, rfl⟩
  have hbX : Below w.heap.size w X := by rw [hX]; exact ((Below.refl _ w).alloc (Nat.le_refl _) _).alloc (by simp) _
  have k0 : X.heap[w.heap.size]? = some (.cells #[S m, S t, .slice a1 hs.length c1, S b] 24 (0, 0)) := by rw [hX]; exact blk_alloc (blk_new w _) _
  have k1 : X.heap[w.heap.size + 1]? = some (.cells #[S m, S t, .slice a2 hs.length c2, S b] 24 (0, 0)) := by rw [hX]; exact blk_at (by simp)
  obtain ⟨x0, x1, x2, x3⟩ := box4 k0
  obtain ⟨y0, y1, y2, y3⟩ := box4 k1
  have hl0 := blk_lt k0
  have hl1 := blk_lt k1
  have hsm := same_any X hs a1 a2 c1 c2 hmx (h1.under hbX) (h2.under hbX)
  have HbX := Lib.hid hbX
  clear hbX h1 h2 k0 k1
  go_enter Tryz.func17, Tryz.ntmps17
  go_upto_region 1 with (fail)
  rw [← hX]
  clear hX
  go_wp2_with (go_at_call 24; with_reducible refine hsm.mono ?_; rintro e w2 ⟨rfl, n, rfl⟩; have HB := Lib.hid (HbX.out.trans ((below_drewN' X n).mono HbX.out.size)))
  go_ret
  exact ⟨rfl, HB.out⟩
end Go.Proofs.YtjkinjfbjbehjaaGreatDoor

/- HTTP: THE WALKS OVER IndexFunc of heads, isWrong. -/
namespace Go.Proofs.YtjkinjfbjbehjaaGreatDoor
open Go.RowKit
set_option maxRecDepth 100000
set_option linter.unusedVariables false
set_option linter.unusedSimpArgs false

def H.idxFrom (p : H.Hd → Bool) : Int → List H.Hd → Int
  | _, [] => -1
  | k, h :: t => if p h then k else H.idxFrom p (k + 1) t
theorem H.idxFrom_at (p : H.Hd → Bool) (hs : List H.Hd) (j : Nat) (x : H.Hd) (hx : hs[j]? = some x) : H.idxFrom p (j : Int) (hs.drop j) = if p x then (j : Int) else H.idxFrom p ((j + 1 : Nat) : Int) (hs.drop (j + 1)) := by
  obtain ⟨hlt, e⟩ := List.getElem?_eq_some_iff.1 hx
  rw [List.drop_eq_getElem_cons hlt, e]
  rfl
set_option maxHeartbeats 1000000 in
theorem idx_any (w : World) (hs : List H.Hd) (ad : Option Addr) (cap : Nat) (hH : Hds w ad hs) (hmx : hs.length ≤ 281474976710656) (C : Nat) (caps : Array Value) (p : H.Hd → Bool)
    (hent : ∀ args W, (callFunc C args).run Tryz.prog W = .ok (.enter C args) W)
    (hp : ∀ W h, h ∈ hs → Below w.heap.size w W → Calls Tryz.prog C (#[.agg #[S h.name, S h.value]] ++ caps) W fun e W' => e = .returned (.bool (p h)) ∧ Below W.heap.size W W') :
    Calls Tryz.prog 39 #[.slice ad hs.length cap, .func (.func C) #[] caps] w fun e w' => e = .returned (.int .i64 (H.idxFrom p 0 hs)) ∧ Below w.heap.size w w' := by
  obtain ⟨z, hz⟩ : ∃ z : Int, ((hs.length : Nat) : Int) = z := ⟨_, rfl⟩
  obtain ⟨R, hR⟩ : ∃ R, H.idxFrom p 0 hs = R := ⟨_, rfl⟩
  rw [hR]
  have HR := Lib.hid hR
  clear hR
  go_enter Tryz.func39, Tryz.ntmps39
  go_wp2
  go_loopw [8] (fun u wr => ∃ (j : Nat), u = .int .i64 (j : Int) ∧ j ≤ hs.length ∧ H.idxFrom p (j : Int) (hs.drop j) = R ∧ Below w.heap.size w wr) (fun u _ => hs.length - (intOf u).toNat)
  case atStart => exact ⟨0, rfl, Nat.zero_le _, by simpa using HR.out, Below.refl _ _⟩
  case round =>
    obtain ⟨j, rfl, hj, hr, hb⟩ := hrel
    by_cases hlt : j < hs.length
    · have hjz : (j : Int) < z := by omega
      have hne : hs ≠ [] := by rintro rfl; simp at hlt
      obtain ⟨g1, o1, rfl, _, k1⟩ := hH.under hb hne
      obtain ⟨x, hx⟩ : ∃ x, hs[j]? = some x := ⟨_, List.getElem?_eq_getElem hlt⟩
      obtain ⟨p1, p2⟩ := k1 j x hx
      have hcall := hp wr x (List.mem_of_getElem? hx) hb
      rw [H.idxFrom_at p hs j x hx] at hr
      have hf := hent (#[.agg #[S x.name, S x.value]] ++ caps)
      have Hr := Lib.hid hr
      have Hb := Lib.hid hb
      clear k1 hr hx hb
      cases hpx : p x with
      | true =>
        rw [hpx] at hcall
        have hv : (j : Int) = R := by have := Hr.out; rw [hpx, if_pos rfl] at this; exact this
        subst hv
        go_wp2_with (refine hcall.mono ?_; rintro e w2 ⟨rfl, hb2⟩)
        go_ret
        exact ⟨rfl, Hb.out.trans (hb2.mono Hb.out.size)⟩
      | false =>
        rw [hpx] at hcall
        have hv := Hr.out
        rw [hpx, if_neg (by decide)] at hv
        have Hv := Lib.hid hv
        clear hv hpx
        go_wp2_with (refine hcall.mono ?_; rintro e w2 ⟨rfl, hb2⟩)
        have Hb2 := Lib.hid (Hb.out.trans (hb2.mono Hb.out.size))
        clear hb2
        go_wp2
        go_roundw
        case rel => exact ⟨j + 1, by go_num, by omega, Hv.out, Hb2.out⟩
        case measure => simp [intOf]; omega
    · have hjz : ¬ (j : Int) < z := by omega
      have hv : R = -1 := by
        rw [← hr, List.drop_of_length_le (by omega)]; rfl
      subst hv
      have Hb := Lib.hid hb
      clear hr hb
      go_wp2
      go_ret
      exact ⟨rfl, Hb.out⟩
/-- named(name), by what it leaves -/
theorem named_is (w : World) (s : H.T) : Calls Tryz.prog 40 #[S s] w fun e w' => ∃ g, e = .returned (.func (.func 69) #[] #[.pointer (some ⟨g, 0, none⟩)]) ∧ w'.heap[g]? = some (.cells #[S s] 9 (0, 0)) ∧ Below w.heap.size w w' := by
  refine (named_any w s).mono fun e w' h => ?_
  obtain ⟨h1, h2⟩ := h
  exact ⟨_, h1, by rw [h2]; exact blk_new w _, by rw [h2]; exact (Below.refl _ w).alloc (Nat.le_refl _) _⟩
theorem headLine_big (w : World) (n v : H.T) (hn : n.length ≤ 140737488355000 ∧ v.length ≤ 140737488355000) : Calls Tryz.prog 78 #[.agg #[S n, S v]] w fun e w' => e = .returned (S (n ++ [58, 32] ++ v)) ∧ Below w.heap.size w w' := by
  obtain ⟨X, hX⟩ : ∃ X, X = w.alloc (.cells #[S n, S v] 73) := ⟨_, rfl⟩
  have hx : X.heap[w.heap.size]? = some (.cells #[S n, S v] 73 (0, 0)) := by rw [hX]; exact blk_new w _
  have hb : Below w.heap.size w X := by rw [hX]; exact (Below.refl _ w).alloc (Nat.le_refl _) _
  obtain ⟨c0, c1⟩ := box2 hx
  have hlt := blk_lt hx
  have e1 : (⟨n.toArray⟩ : ByteArray) ++ ⟨#[58, 32]⟩ = ⟨(n ++ [58, 32]).toArray⟩ := S_app n [58, 32]
  have e2 := S_app (n ++ [58, 32]) v
  go_enter Tryz.func78, Tryz.ntmps78
  go_upto_region 1 with (fail)
  rw [← hX]
  clear hX hx
  go_wp2
  go_ret
  exact ⟨by show Ending.returned (Value.string ⟨(n ++ 58 :: 32 :: v).toArray⟩) = _; simp, hb⟩
theorem value_big (w : World) (s : H.T) (hs : s.length ≤ 140737488355000) : Calls Tryz.prog 88 #[S s] w fun e w' => e = .returned (.bool (H.isValue s)) ∧ Below w.heap.size w w' := by
  have hi := isOf_any w s 112 H.val (fun args w => by kernel_rfl) rune_val H.val_hi
  have ht : ∀ w, Calls Tryz.prog 87 #[S s, .string ⟨#[32, 9]⟩] w fun e w' => e = .returned (S (Lib.trimS s [32, 9])) ∧ Below w.heap.size w w' := fun w =>
    Any.strings_Trim_laid Tryz.lays160 (by kernel_rfl) ⟨s.toArray⟩ ⟨#[32, 9]⟩ w (by rw [S_size]; omega) (by decide) (ascii_of_all (by decide))
  unfold H.isValue
  by_cases he : s = []
  · subst he
    go_enter Tryz.func88, Tryz.ntmps88
    go_wp2
    go_ret
    exact ⟨rfl, Below.refl _ _⟩
  · have hne : ¬ (⟨s.toArray⟩ : ByteArray) = ⟨#[]⟩ := fun h => he ((S_inj (b := [])).1 h)
    have hie : s.isEmpty = false := by cases s with | nil => exact absurd rfl he | cons => rfl
    rw [hie]
    cases hv : H.isOf s H.val with
    | false =>
      rw [hv] at hi
      clear ht
      go_enter Tryz.func88, Tryz.ntmps88
      go_wp2_with (refine hi.mono ?_; rintro e w' ⟨rfl, hb⟩)
      go_ret
      exact ⟨by simp, hb⟩
    | true =>
      rw [hv] at hi
      obtain ⟨u, hu⟩ : ∃ u, Lib.trimS s [32, 9] = u := ⟨_, rfl⟩
      rw [hu] at ht ⊢
      clear hu
      by_cases hq : s = u
      · subst hq
        go_enter Tryz.func88, Tryz.ntmps88
        go_wp2_with (first | (go_at_call 42; refine hi.mono ?_; rintro e w' ⟨rfl, hb⟩) | (go_at_call 87; refine (ht _).mono ?_; rintro e w'' ⟨rfl, hb2⟩))
        go_ret
        exact ⟨by simp, hb.trans (hb2.mono hb.size)⟩
      · go_enter Tryz.func88, Tryz.ntmps88
        go_wp2_with (first | (go_at_call 42; refine hi.mono ?_; rintro e w' ⟨rfl, hb⟩) | (go_at_call 87; refine (ht _).mono ?_; rintro e w'' ⟨rfl, hb2⟩))
        go_ret
        exact ⟨by simp [hq], hb.trans (hb2.mono hb.size)⟩
/-- a head in a box, behind what has been done -/
structure Kx (w : World) (g : Nat) (n v : H.T) (W : World) : Prop where
  box : W.heap[g]? = some (.cells #[S n, S v] 73 (0, 0))
  bel : Below w.heap.size w W
theorem Kx.under {w : World} {g : Nat} {n v : H.T} {W W' : World} (h : Kx w g n v W) (hb : Below W.heap.size W W') : Kx w g n v W' := ⟨blk_under h.box hb, h.bel.trans (hb.mono h.bel.size)⟩
theorem Kx.cells {w : World} {g : Nat} {n v : H.T} {W : World} (h : Kx w g n v W) : W.cell? ⟨g, 0, none⟩ = some (S n) ∧ W.cell? ⟨g, 1, none⟩ = some (S v) := box2 h.box
theorem tokI (n : H.T) (W : World) : Calls Tryz.prog 42 #[S n, .func (.func 43) #[] #[]] W fun e w' => e = .returned (.bool (H.isOf n H.tok)) ∧ Below W.heap.size W w' := isOf_any W n 43 H.tok (fun args w => by kernel_rfl) rune_tok H.tok_hi
theorem tgtI (n : H.T) (W : World) : Calls Tryz.prog 42 #[S n, .func (.func 44) #[] #[]] W fun e w' => e = .returned (.bool (H.isOf n H.tgt)) ∧ Below W.heap.size W w' := isOf_any W n 44 H.tgt (fun args w => by kernel_rfl) rune_tgt H.tgt_hi
end Go.Proofs.YtjkinjfbjbehjaaGreatDoor
