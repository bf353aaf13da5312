/- The statement of the law WireBack is proved: for every slice of fields within the form's own reach, the law returns true, and the argument reads afterwards as it did; no condition of ours. -/
import Derived.Test.YtnnnnlcpmocnfaaRows
import Derived.Test.YtnnnnlcpmocnfaaLive
import Derived.Test.YtnnnnlcpmocnfaaMath3
import Derived.Test.YtnnnnlcpmocnfaaSame
import Derived.Test.YtnnnnlcpmocnfaaOpen
import Derived.ProofKit
import Derived.OpenShut
import Derived.ShutString
namespace Go.Proofs.Ytnnnnlcpmocnfaa.wireBack
open Go.ChangeShapes Go.WideShapes Go.ChangeAt Go.RowKit
open Go.ChangeMaps (open_string shut_string)
set_option linter.unusedVariables false
set_option linter.unusedSimpArgs false

theorem own : ownKnob Try.prog.godebug = none := by kernel_rfl

theorem _root_.Go.Proofs.Ytnnnnlcpmocnfaa.Flds.mono {w : World} {B B' : Nat} {ad : Option Addr} {fs : List M.Fd} (h : Flds w B ad fs) (hb : B ≤ B') : Flds w B' ad fs :=
  ⟨h.1, fun hne => by obtain ⟨g, off, e, hg, hi⟩ := h.2 hne; exact ⟨g, off, e, Nat.lt_of_lt_of_le hg hb, hi⟩⟩

theorem write_any (w : World) (ad : Option Addr) (cap n : Nat) (fs : List M.Fd) (hfn : n = fs.length) (hfs : Flds w w.heap.size ad fs) :
    Calls Try.prog 20 #[.slice ad n cap] w fun e w' => e = .returned (.tuple #[.string ⟨(M.wr fs).2.toArray⟩, .int .i64 (M.wr fs).1]) ∧ Below w.heap.size w w' := by
  by_cases h : n ≤ 4096
  · exact write_short w ad cap n fs hfn hfs h
  · have hr : M.wr fs = (3, []) := by rw [M.wr, if_pos (by omega)]
    rw [hr]
    exact (write_long w ad cap n (by rw [hfn]; exact hfs.1) (by omega)).mono fun e w' ⟨he, hw⟩ => ⟨he, by rw [← hw]; exact Below.refl _ _⟩

theorem wr_cases (fs : List M.Fd) : (∃ e, (e = 2 ∨ e = 3 ∨ e = 4) ∧ M.wr fs = (e, [])) ∨ (M.wr fs = (0, M.enc fs) ∧ fs.all M.may = true ∧ fs.length ≤ 4096 ∧ (M.enc fs).length ≤ 65536) := by
  unfold M.wr
  split
  · exact .inl ⟨3, by omega, rfl⟩
  · split
    · exact .inl ⟨2, by omega, rfl⟩
    · split
      · exact .inl ⟨4, by omega, rfl⟩
      · rename_i h1 h2 h3
        exact .inr ⟨rfl, by simpa using h2, by omega, by omega⟩

set_option maxHeartbeats 4000000 in
theorem walk_bad (w : World) (ad : Option Addr) (n cap : Nat) (fs : List M.Fd) (hn : n = fs.length) (hfl : Flds w w.heap.size ad fs) (e : Nat) (he : e = 2 ∨ e = 3 ∨ e = 4) (hwr : M.wr fs = (e, [])) :
    Calls Try.prog 6 #[.slice ad n cap] w fun e w' => e = .returned (.bool true) ∧ Below w.heap.size w w' := by
  have hW : ∀ W, Below w.heap.size w W → Calls Try.prog 20 #[.slice ad n cap] W fun en w' => en = .returned (.tuple #[.string ⟨#[]⟩, .int .i64 (e : Int)]) ∧ Below W.heap.size W w' := fun W hb => by
    have := write_any W ad cap n fs hn ((hfl.keep hb).mono hb.size)
    rwa [hwr] at this
  have HW := Lib.hid hW
  clear hW hwr hfl hn
  rcases he with rfl | rfl | rfl
  all_goals
    go_enter Try.func6, Try.ntmps6
    go_wp2_with fail
    refine (lives_any _).mono ?_
    rintro e w1 ⟨rfl, hb1⟩
    have Hb1 := Lib.hid hb1
    clear hb1
    go_wp2_with fail
    refine (HW.out w1 Hb1.out).mono ?_
    rintro e w2 ⟨rfl, hb2⟩
    have Hb2 := Lib.hid hb2
    clear hb2
    go_wp2
    go_ret
    have h1 := Hb1.out
    exact ⟨rfl, h1.trans (Hb2.out.mono h1.size)⟩

set_option maxHeartbeats 8000000 in
theorem walk_good (w : World) (ad : Option Addr) (n cap : Nat) (fs : List M.Fd) (hn : n = fs.length) (hfl : Flds w w.heap.size ad fs) (hwr : M.wr fs = (0, M.enc fs)) (hall : fs.all M.may = true) (hlen : fs.length ≤ 4096) (hel : (M.enc fs).length ≤ 65536) :
    Calls Try.prog 6 #[.slice ad n cap] w fun e w' => e = .returned (.bool true) ∧ Below w.heap.size w w' := by
  obtain ⟨xs, hxs⟩ : ∃ xs, xs = M.enc fs := ⟨_, rfl⟩
  have hxl : xs.length ≤ 65536 := by rw [hxs]; exact hel
  have hW : ∀ W, Below w.heap.size w W → Calls Try.prog 20 #[.slice ad n cap] W fun en w' => en = .returned (.tuple #[.string ⟨xs.toArray⟩, .int .i64 0]) ∧ Below W.heap.size W w' := fun W hb => by
    have := write_any W ad cap n fs hn ((hfl.keep hb).mono hb.size)
    rw [hwr] at this
    rw [hxs]
    exact this
  have hfn : ∀ f ∈ fs, f.n < 18446744073709551616 := by
    intro f hf
    obtain ⟨i, hi⟩ := List.getElem?_of_mem hf
    obtain ⟨g, off, _, _, hh⟩ := hfl.2 (List.ne_nil_of_mem hf)
    obtain ⟨a, b, c, l, hfit, _⟩ := hh i f hi
    have := hfit.c1; have := hfit.c0
    rw [hfit.e]; simp only; omega
  have hR : ∀ W, Calls Try.prog 22 #[.string ⟨xs.toArray⟩] W fun en w' => ∃ ad2 cap2, en = .returned (.tuple #[.slice ad2 n cap2, .int .i64 0]) ∧ Flds w' w'.heap.size ad2 fs ∧ Below W.heap.size W w' := fun W => by
    refine (read_any xs W (by omega)).mono fun en w' h => ?_
    obtain ⟨hb, h⟩ := h
    rw [hxs, M.read_enc hall hfn hel hlen] at h
    obtain ⟨v, he, hrow, hfine, _⟩ := h
    obtain ⟨ad2, cap2, rfl, hf2⟩ := hrow.flds hfine (by omega)
    exact ⟨ad2, cap2, by rw [he, hn], hf2, hb⟩
  have hn4 : n ≤ 4096 := by omega
  have HW := Lib.hid hW
  have HR := Lib.hid hR
  have Hfl := Lib.hid hfl
  have Hn := Lib.hid hn
  have Hxs := Lib.hid hxs
  have Hall := Lib.hid hall
  have Hel := Lib.hid hel
  clear hW hR hwr hfl hn hxs hall hlen hel hfn
  go_enter Try.func6, Try.ntmps6
  go_wp2_with fail
  refine (lives_any _).mono ?_
  rintro e w1 ⟨rfl, hb1⟩
  have Hb1 := Lib.hid hb1
  clear hb1
  go_wp2_with fail
  refine (HW.out w1 Hb1.out).mono ?_
  rintro e w2 ⟨rfl, hb2⟩
  have Hb2 := Lib.hid (Hb1.out.trans (hb2.mono Hb1.out.size))
  clear hb2
  go_wp2_with fail
  refine (HR.out w2).mono ?_
  rintro e w3 ⟨ad2, cap2, rfl, hf3, hb3⟩
  have Hb3 := Lib.hid (Hb2.out.trans (hb3.mono Hb2.out.size))
  have Hf3 := Lib.hid hf3
  clear hb3 hf3
  go_wp2
  go_loopw [7, 28] (fun s i wr => ∃ (j t : Nat), i = .int .i64 (j : Int) ∧ j ≤ n ∧ s = .int .i64 (t : Int) ∧ t = (M.enc (fs.take j)).length ∧ t ≤ 65536 ∧ Below w3.heap.size w3 wr) (fun _ i _ => n - (intOf i).toNat)
  case atStart => exact ⟨0, 0, rfl, by omega, rfl, rfl, by omega, Below.refl _ _⟩
  case round =>
    obtain ⟨j, t, rfl, hj, rfl, ht, htb, hbel⟩ := hrel
    have Ht := Lib.hid ht
    have Hbel := Lib.hid hbel
    clear ht hbel
    have Hbw := Lib.hid (Hb3.out.trans (Hbel.out.mono Hb3.out.size))
    by_cases hlt : j < n
    · have hne : fs ≠ [] := by rintro rfl; have := Hn.out; simp at this; omega
      obtain ⟨g, off, rfl, hg, hi⟩ := (Hfl.out.keep Hbw.out).2 hne
      obtain ⟨f, hf⟩ : ∃ f, fs[j]? = some f := ⟨fs[j]'(by have := Hn.out; omega), by simp⟩
      obtain ⟨a, b, c, l, hfit, q⟩ := hi j f hf
      obtain ⟨q0, q1, q2, q3⟩ := q
      have hmb : M.may f = true := List.all_eq_true.1 Hall.out f (List.mem_of_getElem? hf)
      obtain ⟨z, hz⟩ : ∃ z : Nat, z = (M.enc1 f).length := ⟨_, rfl⟩
      have hsz : ∀ W, Calls Try.prog 25 #[.agg (fcells a b c l)] W fun e w' => e = .returned (.int .i64 (z : Int)) ∧ Below W.heap.size W w' := fun W => by
        rw [hz, hfit.e]
        exact size_yes a b c l W hfit.b0 hfit.b1 hfit.c0 hfit.c1 hfit.hl (by rw [← hfit.e]; exact hmb)
      have hnext : t + z = (M.enc (fs.take (j + 1))).length := by
        rw [List.take_add_one, hf, Ht.out, hz]
        simp [M.enc]
      have htz : t + z ≤ 65536 := by
        have h1 : (M.enc (fs.take (j + 1))).length + (M.enc (fs.drop (j + 1))).length = (M.enc fs).length := by
          rw [← List.length_append, ← M.enc_append, List.take_append_drop]
        have := Hel.out
        omega
      have Hsz := Lib.hid hsz
      have Hnext := Lib.hid hnext
      clear hsz hnext hz hmb hfit hf hi hne
      go_wp2_with fail
      refine (Hsz.out _).mono ?_
      rintro e w4 ⟨rfl, hb4⟩
      have Hb4 := Lib.hid ((Hbel.out.alloc Hbel.out.size _).trans (hb4.mono (by have := Hbel.out.size; simp; omega)))
      clear hb4
      go_wp2
      go_roundw
      case rel => exact ⟨j + 1, t + z, by go_num, by omega, by go_num, Hnext.out, by omega, Hb4.out⟩
      case measure => simp [intOf]; omega
    · have hjn : j = n := by omega
      have htx : t = xs.length := by
        rw [Ht.out, Hxs.out, List.take_of_length_le (by have := Hn.out; omega)]
      have hS := same_yes wr ad2 ad cap2 cap n fs Hn.out ((Hf3.out.keep Hbel.out).mono Hbel.out.size) ((Hfl.out.keep Hbw.out).mono Hbw.out.size)
      have HS := Lib.hid hS
      have htx' : ((t : Int) == (xs.length : Int)) = true := by simp; omega
      clear hS hjn htx
      go_wp2_with fail
      refine (HS.out).mono ?_
      rintro e w5 ⟨rfl, hb5⟩
      have Hb5 := Lib.hid (Hbw.out.trans (hb5.mono Hbw.out.size))
      clear hb5
      go_wp2
      go_ret
      exact ⟨rfl, Hb5.out⟩

theorem walk (w : World) (ad : Option Addr) (n cap : Nat) (fs : List M.Fd) (hn : n = fs.length) (hfl : Flds w w.heap.size ad fs) :
    Calls Try.prog 6 #[.slice ad n cap] w fun e w' => e = .returned (.bool true) ∧ Below w.heap.size w w' := by
  rcases wr_cases fs with ⟨e, he, hwr⟩ | ⟨hwr, hall, hlen, hel⟩
  · exact walk_bad w ad n cap fs hn hfl e he hwr
  · exact walk_good w ad n cap fs hn hfl hwr hall hlen hel

theorem laidOut : laidOutB Try.prog = true := by kernel_rfl

set_option maxRecDepth 100000 in
theorem lifted (os : Os) (started : os.Started) (H : Type) (enc : TypeId × Value → H) :
    ReturnsInHanded {} Try.checked os 6 .any (Rows.wireBackSpec.pre6 enc Try.prog Try.f6 Rows.wireBackRow.domain false) (Rows.wireBackSpec.post enc Try.prog Try.f6 false true false false) := by
  refine returnsInHanded_of_change (C := Try.checked) own started (by kernel_rfl) Try.func6
    (ChangeSpec.witness6 (enc := enc) (C := Try.checked) false ⟨#[], #[.slice none 0 0], []⟩ 8 (by kernel_rfl) (by kernel_rfl) (by kernel_rfl) (by kernel_rfl)) ?_
  intro W base args ds gs before hval0 hW hcnd _
  have hval : ∀ (j : Nat) t v, Try.f6.params[j]? = some t → args[j]? = some v → Value.okWide Try.prog W .any base t v := hval0
  have hW' := hW
  obtain ⟨p, q, hA0, hV, rfl, hfz, hnd⟩ := hW
  have hA : DataW.TrodAll enc Try.prog W 0 (fun _ => true) true Try.f6.params.toList args.toList ds p := hA0
  rw [Try.params6] at hA hval
  obtain ⟨v0, vs0, d0, ds0, p0, q0, hargs, rfl, rfl, h0, r0⟩ := trodAll_cons hA
  obtain ⟨rfl, rfl, rfl⟩ := trodAll_nil r0
  obtain rfl : args = #[v0] := by cases args; simp_all
  obtain ⟨rfl, rfl⟩ := trodVars_none hV
  have k0 := h0
  have lt0 : ∀ x ∈ p0, x.block < W.heap.size := by obtain ⟨m, hm⟩ := k0; exact DataW.trod_lt m _ _ _ hm
  obtain ⟨ad, n, cap, fs, rfl, hn, hfl⟩ := open_fds (hval 0 31 v0 rfl rfl) h0
  clear hA0 hval0
  refine (walk W ad n cap fs hn hfl).mono fun e W' ⟨he, bel⟩ => ?_
  subst he
  exact ⟨_, rfl, _, _, _, [], _, [], hW', trodAll_mk1 (shut_bool Try.underlying4 _), (trodAll_cons_mk (Below.trod laidOut (by kernel_rfl) (of_decide_eq_true (by kernel_rfl)) k0 bel lt0) trodAll_mk0), rfl, bel.frame _, fun h => by cases h⟩

theorem over : Rows.wireBackRow.holds Try.pinned (OpenSpec.ofChange Rows.wireBackSpec) :=
  OpenClaim.holds_of_wide 6 Try.f6 rfl rfl rfl rfl rfl rfl rfl ⟨rfl, rfl, rfl, rfl, rfl⟩ rfl rfl rfl rfl rfl (by kernel_rfl) Try.func6 (by kernel_rfl)
    (of_decide_eq_true (by kernel_rfl)) (by unfold Func.isWrapper; rw [if_neg (by decide +kernel)]; exact ⟨rfl, rfl⟩)
    (fun os started H enc _ => lifted os started H enc)

theorem proved : Rows.WireBackSaid := over
#print axioms proved
end Go.Proofs.Ytnnnnlcpmocnfaa.wireBack
