/- HTTP: WHAT IS READ, AS MATHEMATICS. -/
import Derived.Test.YtomicdkmbgckkaaGreatDoorGae
import Derived.Lib.ParseIntB
namespace Go.Proofs.YtomicdkmbgckkaaGreatDoor
open Go.RowKit
set_option linter.unusedVariables false
set_option linter.unusedSimpArgs false
namespace H
def requestLine (l : T) : R (T × T) :=
  match line l with
  | .error e => .error e
  | .ok (t, r) =>
    let c := Lib.cut t [32]
    let d := Lib.cut c.2.1 [32]
    if isOf c.1 tok && isOf d.1 tgt && decide (d.2.1 = version) then .ok ((c.1, d.1), r) else .error 13
def decO (l : T) : Option Nat := match Lib.parseUintB 64 l with | .ok u => some u | _ => none
/-- a number of so many digits at most -/
def wholeO (o : Option Nat) (s : T) (digits : Nat) : Except Int Nat :=
  if s.length ≤ digits then (match o with | some n => .ok n | none => .error 13) else .error 13
def whole10 (s : T) (digits : Nat) : Except Int Nat := wholeO (decO s) s digits
def hexN (c : Nat) : Option Nat := if 48 ≤ c ∧ c ≤ 57 then some (c - 48) else if 97 ≤ c ∧ c ≤ 102 then some (c - 97 + 10) else if 65 ≤ c ∧ c ≤ 70 then some (c - 65 + 10) else none
def hexv (b : UInt8) : Option Nat := hexN b.toNat
def hexF : Nat → T → Option Nat
  | n, [] => some n
  | n, b :: t => match hexv b with | some d => hexF (16 * n + d) t | none => none
def hexO (l : T) : Option Nat := if l = [] then none else hexF 0 l
/-- a hexadecimal number -/
def whole16 (s : T) : Except Int Nat := wholeO (hexO s) s 8
def statusLine (l : T) : R Nat :=
  match line l with
  | .error e => .error e
  | .ok (t, r) =>
    let s := Lib.trimPrefix t (version ++ [32])
    let c := Lib.cut s [32]
    if Lib.hasPrefix t (version ++ [32]) && c.2.2 && decide (c.1.length = 3) then
      match whole10 c.1 3 with
      | .error e => .error e
      | .ok n => if 100 ≤ n ∧ n ≤ 599 then .ok (n, r) else .error 13
    else .error 13
/-- so many bytes of a body that has some already -/
def part (most : Int) (n already : Nat) (l : T) : R T :=
  if ¬ (n : Int) ≤ most - already then .error 4
  else if ¬ n ≤ l.length then .error 14
  else .ok (l.take n, l.drop n)
def chunkSize (l : T) : R Nat :=
  match line l with
  | .error e => .error e
  | .ok (t, r) => match whole16 (Lib.cut t [59]).1 with
    | .error e => .error e
    | .ok n => .ok (n, r)
def endR : T → R Unit
  | [] => .error 14
  | a :: t => if a = 13 then (match t with
      | [] => .error 14
      | b :: u => if b = 10 then .ok ((), u) else .error 13)
    else .error 13
def chunksF (most : Int) : Nat → T → T → R T
  | 0, _, _ => .error 0
  | k + 1, acc, l =>
    match chunkSize l with
    | .error e => .error e
    | .ok (n, r) =>
      if n = 0 then (match heads r with
        | .error e => .error e
        | .ok (_, r') => .ok (acc, r'))
      else match part most n acc.length r with
        | .error e => .error e
        | .ok (p, r') => match endR r' with
          | .error e => .error e
          | .ok (_, r'') => chunksF most k (acc ++ p) r''
def chunks (most : Int) (l : T) : R T := chunksF most (l.length + 1) [] l
def body (most : Int) (f : Fr) (l : T) : R T :=
  if 0 < f.cods.length then
    (if f.cods.length = 1 ∧ alike (f.cods.headD []) chunkedN = true ∧ f.lens.length = 0 then chunks most l else .error 13)
  else if 0 < f.lens.length then
    (if f.lens.length = 1 then (match whole10 (f.lens.headD []) 9 with
      | .error e => .error e
      | .ok n => part most n 0 l) else .error 13)
  else .ok ([], l)
structure Rq where
  method : T
  target : T
  hs : List Hd
  body : T
structure Rs where
  status : Nat
  hs : List Hd
  body : T
def reqR (most : Int) (l : T) : R Rq :=
  match requestLine l with
  | .error e => .error e
  | .ok ((m, t), r) => match heads r with
    | .error e => .error e
    | .ok (f, r') => match body most f r' with
      | .error e => .error e
      | .ok (b, r'') => .ok (⟨m, t, f.hs, b⟩, r'')
def resR (most : Int) (l : T) : R Rs :=
  match statusLine l with
  | .error e => .error e
  | .ok (n, r) => match heads r with
    | .error e => .error e
    | .ok (f, r') =>
      if 0 < f.lens.length + f.cods.length then
        match body most f r' with
        | .error e => .error e
        | .ok (b, r'') => .ok (⟨n, f.hs, b⟩, r'')
      else .error 13
def okMost (most : Int) : Prop := 0 ≤ most ∧ most ≤ 65536
instance (most : Int) : Decidable (okMost most) := by unfold okMost; infer_instance
/-- ReadRequest: the request, how long it is, the error's number -/
def readRequest (l : T) (most : Int) : Rq × Nat × Int :=
  if okMost most then match reqR most l with
    | .ok (q, r) => (q, l.length - r.length, 0)
    | .error e => (⟨[], [], [], []⟩, 0, e)
  else (⟨[], [], [], []⟩, 0, 2)
def readResponse (l : T) (most : Int) : Rs × Nat × Int :=
  if okMost most then match resR most l with
    | .ok (q, r) => (q, l.length - r.length, 0)
    | .error e => (⟨0, [], []⟩, 0, e)
  else (⟨0, [], []⟩, 0, 2)

/- what is read is shorter -/
theorem idx_cases (l : T) (c : UInt8) : Lib.indexByte l c = -1 ∨ ∃ n : Nat, Lib.indexByte l c = (n : Int) ∧ n < l.length := by
  induction l with
  | nil => exact .inl rfl
  | cons b t ih =>
    by_cases h : b = c
    · exact .inr ⟨0, by simp [Lib.indexByte, h], by simp⟩
    · rcases ih with h1 | ⟨n, h1, h2⟩
      · exact .inl (by simp [Lib.indexByte, h, h1])
      · exact .inr ⟨n + 1, by simp [Lib.indexByte, h, h1] <;> omega, by simp; exact h2⟩
theorem suf_len {l p : T} (h : Lib.hasSuffix l p = true) : p.length ≤ l.length := by
  unfold Lib.hasSuffix at h
  exact (List.isSuffixOf_iff_suffix.1 h).length_le
theorem line_len {l t r : T} (h : line l = .ok (t, r)) : t.length ≤ 4098 ∧ r.length < l.length ∧ t.length + 2 + r.length ≤ l.length := by
  unfold line at h
  simp only at h
  split at h
  · cases h
  · split at h
    · cases h
    · split at h
      · rename_i h1 h2 h3
        injection h with h
        injection h with h4 h5
        have hi : 0 ≤ Lib.indexByte (l.take 4098) 10 := by omega
        have hlt : (Lib.indexByte (l.take 4098) 10).toNat < (l.take 4098).length := by
          rcases idx_cases (l.take 4098) 10 with h | ⟨n, h, hn⟩
          · omega
          · omega
        rw [List.length_take] at hlt
        have ht : t.length ≤ (Lib.indexByte (l.take 4098) 10).toNat + 1 - 2 := by
          rw [← h4]
          unfold Lib.trimSuffix
          rw [if_pos h3, List.length_take, List.length_take]
          simp only [List.length_cons, List.length_nil]
          omega
        have h2 := suf_len h3
        rw [List.length_take] at h2
        simp only [List.length_cons, List.length_nil] at h2
        have hr : r.length = l.length - ((Lib.indexByte (l.take 4098) 10).toNat + 1) := by rw [← h5, List.length_drop]
        omega
      · cases h
theorem cut_name (s p : T) (h : (Lib.cut s p).2.2 = true) : (Lib.cut s p).1.length + p.length ≤ s.length := by
  unfold Lib.cut at *
  split at h
  · rename_i h0
    rw [if_pos h0]
    have := Lib.index_room s p (by omega)
    simp only [List.length_take]
    omega
  · cases h
theorem head_name {t : T} {h : Hd} (e : head t = .ok h) : h.name.length + 1 ≤ t.length := by
  unfold head at e
  simp only at e
  split at e
  · rename_i h0
    injection e with e
    rw [← e]
    simp only [Bool.and_eq_true] at h0
    exact cut_name t [58] h0.1.1
  · cases e
end H
end Go.Proofs.YtomicdkmbgckkaaGreatDoor

/- HTTP: THE WALKS OVER requestLine, head. -/
namespace Go.Proofs.YtomicdkmbgckkaaGreatDoor
open Go.RowKit
set_option linter.unusedVariables false
set_option linter.unusedSimpArgs false
set_option maxRecDepth 100000

theorem tab8 {w w' : World} {n : String} {k : IntKind} {zs : List Int} (hg : Tryz.prog.globalNamed n = some 3) (h : Lib.TabIs Tryz.prog w n k zs) (hb : Below 8 w w') : Lib.TabIs Tryz.prog w' n k zs := by
  unfold Lib.TabIs World.var? at *
  simp only [hg, Option.bind_some] at h ⊢
  rw [hb.block 3 (by omega)]
  exact h
theorem Tabs.keep {w w' : World} (h : Tabs w) (hb : Below 8 w w') : Tabs w' where
  m := by obtain ⟨m, hm⟩ := h.m; exact ⟨m, (hb.cell (p := ⟨0, 0, none⟩) (by show 0 < 8; omega)).trans hm⟩
  pow := tab8 (by kernel_rfl) h.pow hb
  e2 := by obtain ⟨m, n, hm⟩ := h.e2; exact ⟨m, n, (hb.cell (p := ⟨1, 0, none⟩) (by show 1 < 8; omega)).trans hm⟩
  e3 := by obtain ⟨m, n, hm⟩ := h.e3; exact ⟨m, n, (hb.cell (p := ⟨2, 0, none⟩) (by show 2 < 8; omega)).trans hm⟩
  sz := Nat.lt_of_lt_of_le h.sz hb.size
theorem Tabs.under {w w' : World} (h : Tabs w) (hb : Below w.heap.size w w') : Tabs w' := h.keep (hb.mono (by have := h.sz; omega))
theorem line_ok {w : World} {g : Nat} {l : H.T} {most : Int} (hc : Crs w g l most) (hl : l.length ≤ 281474976710656) {t r : H.T} (h : H.line l = .ok (t, r)) :
    Calls Tryz.prog 31 #[.pointer (some ⟨g, 0, none⟩)] w fun e w' => e = .returned (S t) ∧ w.grownBy w' (some g) ∧ Crs w' g r most :=
  (line_any w g l most hc hl).mono fun e w' hr => by
    obtain ⟨h1, h2⟩ := hr
    rw [h] at h2
    obtain ⟨v, e1, e2, e3⟩ := h2
    exact ⟨by rw [e1, e2], h1, e3⟩
theorem line_err {w : World} {g : Nat} {l : H.T} {most : Int} (hc : Crs w g l most) (hl : l.length ≤ 281474976710656) {c : Int} (h : H.line l = .error c) :
    Calls Tryz.prog 31 #[.pointer (some ⟨g, 0, none⟩)] w fun e w' => e = pan c ∧ w.grownBy w' (some g) :=
  (line_any w g l most hc hl).mono fun e w' hr => by
    obtain ⟨h1, h2⟩ := hr
    rw [h] at h2
    exact ⟨h2, h1⟩
theorem cut_any (w : World) (s : H.T) (c : UInt8) (hs : s.length ≤ 1000000000) (hT : ∃ m, w.cell? ⟨0, 0, none⟩ = some (.int .i64 m)) :
    Calls Tryz.prog 30 #[S s, .string ⟨#[c]⟩] w fun e w' => e = .returned (.tuple #[S (Lib.cut s [c]).1, S (Lib.cut s [c]).2.1, .bool (Lib.cut s [c]).2.2]) ∧ ∃ n, w' = w.drewN n := by
  obtain ⟨m, hm⟩ := hT
  exact Tryz.strings_Cut ⟨s.toArray⟩ ⟨#[c]⟩ m w (by rw [S_size]; omega) hm
theorem cut_len (s p : H.T) : (Lib.cut s p).1.length ≤ s.length ∧ (Lib.cut s p).2.1.length ≤ s.length := by
  unfold Lib.cut
  split
  · simp only [List.length_take, List.length_drop]; omega
  · simp
/-- how a method of a cursor goes on: the world, and what is left -/
structure Go1 (w w' : World) (g : Nat) (l : H.T) (most : Int) : Prop where
  gr : w.grownBy w' (some g)
  c : Crs w' g l most
theorem Go1.below {w w' w'' : World} {g : Nat} {l : H.T} {most : Int} (h : Go1 w w' g l most) (hb : Below w'.heap.size w' w'') : Go1 w w'' g l most :=
  ⟨h.gr.trans (below_grown hb _), h.c.under hb⟩
/-- a cursor lies above the tables -/
theorem Tabs.grown {w w' : World} {g : Nat} (h : Tabs w) (hg : w.grownBy w' (some g)) (h8 : 8 ≤ g) (hlt : g < w.heap.size) : Tabs w' :=
  h.keep (grown_below (Below.refl _ _) hg h8 hlt)

set_option maxHeartbeats 2000000 in
theorem requestLine_any (w : World) (g : Nat) (l : H.T) (most : Int) (hc : Crs w g l most) (hl : l.length ≤ 281474976710656) (hT : Tabs w) (h8 : 8 ≤ g) :
    Calls Tryz.prog 21 #[.pointer (some ⟨g, 0, none⟩)] w (Read w g most (H.requestLine l) fun p _ v => v = .tuple #[S p.1, S p.2]) := by
  unfold H.requestLine
  cases hr : H.line l with
  | error c =>
    have hq := line_err hc hl hr
    simp only
    clear hr hc hT
    go_enter Tryz.func21, Tryz.ntmps21
    go_wp2_with (refine hq.mono ?_; rintro e w1 ⟨rfl, hg⟩)
    exact ⟨rfl, Read.err hg⟩
  | ok p =>
    obtain ⟨t, r⟩ := p
    have hq := line_ok hc hl hr
    have hlen := (H.line_len hr).1
    simp only
    obtain ⟨a, ha⟩ : ∃ a, Lib.cut t [32] = a := ⟨_, rfl⟩
    obtain ⟨a1, a2, a3⟩ := a
    have hal := cut_len t [32]
    rw [ha] at hal ⊢
    simp only at hal ⊢
    obtain ⟨d, hd⟩ : ∃ d, Lib.cut a2 [32] = d := ⟨_, rfl⟩
    obtain ⟨d1, d2, d3⟩ := d
    have hdl := cut_len a2 [32]
    rw [hd] at hdl ⊢
    simp only at hdl ⊢
    have hcA : ∀ w, (∃ m, w.cell? ⟨0, 0, none⟩ = some (.int .i64 m)) → Calls Tryz.prog 30 #[S t, .string ⟨#[32]⟩] w fun e w' => e = .returned (.tuple #[S a1, S a2, .bool a3]) ∧ ∃ n, w' = w.drewN n := fun w hm => by
      have := cut_any w t 32 (by omega) hm; rw [ha] at this; exact this
    have hcD : ∀ w, (∃ m, w.cell? ⟨0, 0, none⟩ = some (.int .i64 m)) → Calls Tryz.prog 30 #[S a2, .string ⟨#[32]⟩] w fun e w' => e = .returned (.tuple #[S d1, S d2, .bool d3]) ∧ ∃ n, w' = w.drewN n := fun w hm => by
      have := cut_any w a2 32 (by omega) hm; rw [hd] at this; exact this
    have hi1 := fun w => isOf_any w a1 33 H.tok (fun args w => by kernel_rfl) rune_tok H.tok_hi
    have hi2 := fun w => isOf_any w d1 34 H.tgt (fun args w => by kernel_rfl) rune_tgt H.tgt_hi
    have HT := Lib.hid hT
    have hlt := hc.lt
    clear ha hd hr hc hal hdl hlen hT
    cases h1 : H.isOf a1 H.tok with
    | false =>
      rw [h1] at hi1
      simp only [Bool.false_and, Bool.false_eq_true, if_false]
      go_enter Tryz.func21, Tryz.ntmps21
      go_wp2_with fail
      refine hq.mono ?_
      rintro e w1 ⟨rfl, hg, hc1⟩
      have HT1 := Lib.hid (HT.out.grown hg h8 hlt)
      have HG := Lib.hid (Go1.mk hg hc1)
      clear hg hc1 hq HT
      go_wp2_with fail
      refine (hcA w1 HT1.out.m).mono ?_
      rintro e w2 ⟨rfl, n2, rfl⟩
      have hb := below_drewN' w1 n2
      have HT2 := Lib.hid (HT1.out.under hb)
      clear hb HT1
      go_wp2_with fail
      refine (hcD _ HT2.out.m).mono ?_
      rintro e w3 ⟨rfl, n3, rfl⟩
      have HG3 := Lib.hid (HG.out.below (below_drewN' w1 (n2 + n3)))
      clear HT2 HG hcA hcD
      go_wp2_with (first | (go_at_call 32; with_reducible refine (hi1 _).mono ?_; rintro e w4 ⟨rfl, hb4⟩) | (go_at_call 29; with_reducible refine (unless_no _ _).mono ?_; rintro e w' ⟨rfl, rfl⟩))
      exact ⟨rfl, Read.err (HG3.out.below hb4).gr⟩
    | true =>
      rw [h1] at hi1
      cases h2 : H.isOf d1 H.tgt with
      | false =>
        rw [h2] at hi2
        simp only [Bool.false_and, Bool.and_false, Bool.false_eq_true, if_false]
        go_enter Tryz.func21, Tryz.ntmps21
        go_wp2_with fail
        refine hq.mono ?_
        rintro e w1 ⟨rfl, hg, hc1⟩
        have HT1 := Lib.hid (HT.out.grown hg h8 hlt)
        have HG := Lib.hid (Go1.mk hg hc1)
        clear hg hc1 hq HT
        go_wp2_with fail
        refine (hcA w1 HT1.out.m).mono ?_
        rintro e w2 ⟨rfl, n2, rfl⟩
        have hb := below_drewN' w1 n2
        have HT2 := Lib.hid (HT1.out.under hb)
        clear hb HT1
        go_wp2_with fail
        refine (hcD _ HT2.out.m).mono ?_
        rintro e w3 ⟨rfl, n3, rfl⟩
        have HG3 := Lib.hid (HG.out.below (below_drewN' w1 (n2 + n3)))
        clear HT2 HG hcA hcD
        go_wp2_with (first | (go_at_call 32; with_reducible refine (hi1 _).mono ?_; rintro e w4 ⟨rfl, hb4⟩) | (go_at_call 32; with_reducible refine (hi2 _).mono ?_; rintro e w5 ⟨rfl, hb5⟩) | (go_at_call 29; with_reducible refine (unless_no _ _).mono ?_; rintro e w' ⟨rfl, rfl⟩))
        exact ⟨rfl, Read.err ((HG3.out.below hb4).below hb5).gr⟩
      | true =>
        rw [h2] at hi2
        rw [show H.version = [72, 84, 84, 80, 47, 49, 46, 49] from rfl]
        by_cases h3 : d2 = [72, 84, 84, 80, 47, 49, 46, 49]
        · subst h3
          simp only [Bool.true_and, decide_true, if_true]
          go_enter Tryz.func21, Tryz.ntmps21
          go_wp2_with fail
          refine hq.mono ?_
          rintro e w1 ⟨rfl, hg, hc1⟩
          have HT1 := Lib.hid (HT.out.grown hg h8 hlt)
          have HG := Lib.hid (Go1.mk hg hc1)
          clear hg hc1 hq HT
          go_wp2_with fail
          refine (hcA w1 HT1.out.m).mono ?_
          rintro e w2 ⟨rfl, n2, rfl⟩
          have hb := below_drewN' w1 n2
          have HT2 := Lib.hid (HT1.out.under hb)
          clear hb HT1
          go_wp2_with fail
          refine (hcD _ HT2.out.m).mono ?_
          rintro e w3 ⟨rfl, n3, rfl⟩
          have HG3 := Lib.hid (HG.out.below (below_drewN' w1 (n2 + n3)))
          clear HT2 HG hcA hcD
          go_wp2_with (first | (go_at_call 32; with_reducible refine (hi1 _).mono ?_; rintro e w4 ⟨rfl, hb4⟩) | (go_at_call 32; with_reducible refine (hi2 _).mono ?_; rintro e w5 ⟨rfl, hb5⟩) | (go_at_call 29; with_reducible refine (unless_yes _ _).mono ?_; rintro e w' ⟨rfl, rfl⟩))
          go_ret2
          exact Read.ok ((HG3.out.below hb4).below hb5).gr rfl ((HG3.out.below hb4).below hb5).c
        · have h3' : decide (d2 = [72, 84, 84, 80, 47, 49, 46, 49]) = false := by simpa using h3
          have h5 : (d2 == [72, 84, 84, 80, 47, 49, 46, 49]) = false := by simpa using h3
          rw [h3']
          simp only [Bool.true_and, Bool.and_false, Bool.false_eq_true, if_false]
          clear h3 h3'
          go_enter Tryz.func21, Tryz.ntmps21
          go_wp2_with fail
          refine hq.mono ?_
          rintro e w1 ⟨rfl, hg, hc1⟩
          have HT1 := Lib.hid (HT.out.grown hg h8 hlt)
          have HG := Lib.hid (Go1.mk hg hc1)
          clear hg hc1 hq HT
          go_wp2_with fail
          refine (hcA w1 HT1.out.m).mono ?_
          rintro e w2 ⟨rfl, n2, rfl⟩
          have hb := below_drewN' w1 n2
          have HT2 := Lib.hid (HT1.out.under hb)
          clear hb HT1
          go_wp2_with fail
          refine (hcD _ HT2.out.m).mono ?_
          rintro e w3 ⟨rfl, n3, rfl⟩
          have HG3 := Lib.hid (HG.out.below (below_drewN' w1 (n2 + n3)))
          clear HT2 HG hcA hcD
          go_wp2_with (first | (go_at_call 32; with_reducible refine (hi1 _).mono ?_; rintro e w4 ⟨rfl, hb4⟩) | (go_at_call 32; with_reducible refine (hi2 _).mono ?_; rintro e w5 ⟨rfl, hb5⟩) | (go_at_call 29; with_reducible refine (unless_no _ _).mono ?_; rintro e w' ⟨rfl, rfl⟩))
          exact ⟨rfl, Read.err ((HG3.out.below hb4).below hb5).gr⟩
end Go.Proofs.YtomicdkmbgckkaaGreatDoor
