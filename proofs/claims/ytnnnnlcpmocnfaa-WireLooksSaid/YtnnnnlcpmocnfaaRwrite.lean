/- THE WALK OVER THE DOCUMENT's OWN Write. -/
import Derived.Test.YtnnnnlcpmocnfaaOnef
namespace Go.Proofs.Ytnnnnlcpmocnfaa
open Go.RowKit
set_option linter.unusedVariables false
set_option linter.unusedSimpArgs false

theorem rwrite_long (w : World) (ad : Option Addr) (cap n : Nat) (hn : n ≤ 9223372036854775807) (hlen : 4096 < n) :
    Calls Try.prog 21 #[.slice ad n cap] w fun e w' => e = .returned (.tuple #[.string ⟨#[]⟩, .int .i64 3]) ∧ w = w' := by
  go_enter Try.func21, Try.ntmps21
  go_wp2
  go_ret2
  exact ⟨rfl, rfl⟩

theorem enc_take_le (fs : List M.Fd) (k : Nat) : (M.enc (fs.take k)).length ≤ (M.enc fs).length := by
  have h1 : (M.enc (fs.take k)).length + (M.enc (fs.drop k)).length = (M.enc fs).length := by
    rw [← List.length_append, ← M.enc_append, List.take_append_drop]
  omega

set_option maxHeartbeats 4000000 in
theorem rwrite_short (w : World) (ad : Option Addr) (cap n : Nat) (fs : List M.Fd) (hfn : n = fs.length) (hfs : Flds w w.heap.size ad fs) (hlen : n ≤ 4096) :
    Calls Try.prog 21 #[.slice ad n cap] w fun e w' => e = .returned (.tuple #[.string ⟨(M.wr fs).2.toArray⟩, .int .i64 (M.wr fs).1]) ∧ Below w.heap.size w w' := by
  obtain ⟨R, hR⟩ : ∃ R, R = M.wr fs := ⟨_, rfl⟩
  rw [← hR]
  have HR := Lib.hid hR
  have Hfn := Lib.hid hfn
  have Hfs := Lib.hid hfs
  clear hR hfn hfs
  go_enter Try.func21, Try.ntmps21
  go_wp2
  go_loopw [14] (fun i wr => ∃ (k : Nat), i = .int .i64 (k : Int) ∧ k ≤ n ∧ (fs.take k).all M.may = true ∧ Below w.heap.size w wr) (fun i _ => n - (intOf i).toNat)
  case atStart => exact ⟨0, rfl, by omega, rfl, Below.refl _ _⟩
  case round =>
    obtain ⟨k, rfl, hk, hall, hbel⟩ := hrel
    have Hall := Lib.hid hall
    have Hbel := Lib.hid hbel
    clear hall hbel
    by_cases hlt : k < n
    · have hne : fs ≠ [] := by rintro rfl; simp at Hfn; have := Hfn.out; omega
      obtain ⟨g, off, rfl, hg, hi⟩ := (Hfs.out.keep Hbel.out).2 hne
      obtain ⟨f, hf⟩ : ∃ f, fs[k]? = some f := ⟨fs[k]'(by have := Hfn.out; omega), by simp⟩
      obtain ⟨a, b, c, l, hfit, q⟩ := hi k f hf
      obtain ⟨q0, q1, q2, q3⟩ := q
      obtain ⟨hfe, hb0, hb1, hc0, hc1, ha0, ha1, hll⟩ := hfit
      have hmay : ∀ W, Calls Try.prog 34 #[.agg (fcells a b c l)] W fun e w' => e = .returned (.bool (M.may f)) ∧ W.alloc (.cells (fcells a b c l) 39) = w' := fun W => by rw [hfe]; exact rmay_any a b c l W hb0 hb1 hc0 (by omega)
      have Hf := Lib.hid hf
      clear hf hfe hi hne
      cases hmb : M.may f with
      | false =>
        rw [hmb] at hmay
        have hret : R = (2, []) := by
          have hall : fs.all M.may = false := by
            cases h : fs.all M.may with
            | false => rfl
            | true => have := (List.all_eq_true.1 h) f (List.mem_of_getElem? Hf.out); rw [hmb] at this; cases this
          rw [HR.out, M.wr, if_neg (by have := Hfn.out; omega), if_pos hall]
        have Hret := Lib.hid hret
        have Hmay := Lib.hid hmay
        clear hret hmay hmb
        go_wp2_with fail
        refine (Hmay.out _).mono ?_
        rintro e w' ⟨rfl, rfl⟩
        go_wp2
        go_ret2
        exact ⟨by rw [Hret.out]; rfl, Hbel.out.trans (((Below.refl _ _).alloc Hbel.out.size _).alloc (by have := Hbel.out.size; simp; omega) _)⟩
      | true =>
        rw [hmb] at hmay
        have hall : (fs.take (k + 1)).all M.may = true := by
          rw [List.take_add_one, Hf.out, List.all_append, Hall.out]
          simp [hmb]
        have Hmay := Lib.hid hmay
        have Hall' := Lib.hid hall
        clear hmay hall hmb
        go_wp2_with fail
        refine (Hmay.out _).mono ?_
        rintro e w' ⟨rfl, rfl⟩
        go_wp2
        go_roundw
        case rel =>
          refine ⟨k + 1, by go_num, by omega, Hall'.out, Hbel.out.trans ?_⟩
          exact ((Below.refl _ _).alloc Hbel.out.size _).alloc (by have := Hbel.out.size; simp; omega) _
        case measure => simp [intOf]; omega
    · have hal := Hall.out
      rw [List.take_of_length_le (by have := Hfn.out; omega)] at hal
      have Hal := Lib.hid hal
      have hkn : k = n := by omega
      clear hal Hall
      subst hkn
      go_wp2
      go_loopw [6, 24] (fun v i wq => ∃ (j : Nat), i = .int .i64 (j : Int) ∧ j ≤ k ∧ Bytes 5 wq w.heap.size v (M.enc (fs.take j)) ∧ (M.enc (fs.take j)).length ≤ 65536 ∧ Below w.heap.size w wq) (fun _ i _ => k - (intOf i).toNat)
      case atStart => exact ⟨0, rfl, by omega, Bytes.nil _ _, by simp [M.enc], Hbel.out⟩
      case round =>
        obtain ⟨j, rfl, hj, hown, hel, hbelj⟩ := hrel
        have Hown := Lib.hid hown
        have Hbj := Lib.hid hbelj
        have Hel := Lib.hid hel
        clear hown hbelj hel
        by_cases hlt : j < k
        · have hne : fs ≠ [] := by rintro rfl; have := Hfn.out; simp at this; omega
          obtain ⟨g, off, rfl, hg, hi⟩ := (Hfs.out.keep Hbj.out).2 hne
          obtain ⟨f, hf⟩ : ∃ f, fs[j]? = some f := ⟨fs[j]'(by have := Hfn.out; omega), by simp⟩
          obtain ⟨a, b, c, l, hfit, q⟩ := hi j f hf
          obtain ⟨q0, q1, q2, q3⟩ := q
          have hmb : M.may f = true := List.all_eq_true.1 Hal.out f (List.mem_of_getElem? hf)
          have he1 := enc1_le hfit hmb
          obtain ⟨hfe, hb0, hb1, hc0, hc1, ha0, ha1, hll⟩ := hfit
          obtain ⟨en, hen⟩ : ∃ en, en = M.enc1 f := ⟨_, rfl⟩
          rw [← hen] at he1
          have hone : ∀ W, Calls Try.prog 35 #[.agg (fcells a b c l)] W fun e w' => e = .returned (.string ⟨en.toArray⟩) ∧ Below W.heap.size W w' := fun W => by
            rw [hen, hfe]; exact one_any a b c l W hb0 hb1 hc0 hc1 (by rw [← hfe]; exact hmb)
          obtain ⟨X, hX⟩ : ∃ X, X = M.enc (fs.take j) := ⟨_, rfl⟩
          have hnext : M.enc (fs.take (j + 1)) = X ++ en := by
            rw [List.take_add_one, hf, hX, hen]
            simp [M.enc]
          rw [← hX] at Hown Hel
          have Hnext := Lib.hid hnext
          have Hone := Lib.hid hone
          have Hle := Lib.hid (show X.length + en.length ≤ 140737488355000 by have := Hel.out; omega)
          have hsz := Hbj.out.size
          clear hmb hnext hone hf hfe hi hne hX hen
          go_wp2_with fail
          refine (Hone.out _).mono ?_
          rintro e w2 ⟨rfl, hb2⟩
          have hown2 : Bytes 5 w2 w.heap.size _ X := (Hown.out.alloc (.cells (fcells a b c l) 39)).kept (row := none) ⟨hb2.os, hb2.tape, hb2.output, hb2.size, fun q hq _ => hb2.block q hq⟩ (by cases Value.ownBlock _ <;> simp)
          have Hb2 := Lib.hid ((Hbj.out.alloc Hbj.out.size _).trans (hb2.mono (by simp; omega)))
          have Hown2 := Lib.hid hown2
          clear hb2 hown2 q0 q1 q2 q3
          go_wp2_with (at_builtin; refine wp_app_str Try.info5 Try.underlying51 Try.underlying9 rfl _ _ rfl w.heap.size _ _ rfl Hown2.out en rfl Hle.out Hb2.out.size ?_)
          intro v3 w3 hb3 hg3
          have Hb3 := Lib.hid (Hb2.out.trans (hg3.below Hb2.out.size (fun q hq => (Hown2.out.lt q hq).1)))
          obtain ⟨ad3, cap3, rfl⟩ := hb3.form
          have Hown3 := Lib.hid hb3
          obtain ⟨Y, hY⟩ : ∃ Y, Y = X ++ en := ⟨_, rfl⟩
          have hYl : Y.length ≤ 140737488355000 := by rw [hY, List.length_append]; exact Hle.out
          rw [← hY] at Hown3 Hnext ⊢
          clear hb3 hg3 hY
          by_cases hbig : 65536 < Y.length
          · have hret : R = (4, []) := by
              have h1 := enc_take_le fs (j + 1)
              rw [Hnext.out] at h1
              rw [HR.out, M.wr, if_neg (by have := Hfn.out; omega), if_neg (by simp [Hal.out]), if_pos (by omega)]
            have Hret := Lib.hid hret
            clear hret
            go_wp2
            go_ret2
            exact ⟨by rw [Hret.out]; rfl, Hb3.out⟩
          · have hsm : Y.length ≤ 65536 := by omega
            clear hbig
            go_wp2
            go_roundw
            case rel => exact ⟨j + 1, by go_num, by omega, by rw [Hnext.out]; exact Hown3.out, by rw [Hnext.out]; exact hsm, Hb3.out⟩
            case measure => simp [intOf]; omega
        · have ho := Hown.out
          have hel := Hel.out
          have htake : fs.take j = fs := List.take_of_length_le (by have := Hfn.out; omega)
          rw [htake] at ho hel
          have hret : R = (0, M.enc fs) := by
            rw [HR.out, M.wr, if_neg (by have := Hfn.out; omega), if_neg (by simp [Hal.out]), if_neg (by omega)]
          have Hret := Lib.hid hret
          have hconv := ho.conv Try.underlying51 Try.underlying5 Try.underlying9
          clear htake ho hret hel
          go_wp2
          go_ret2
          exact ⟨by rw [Hret.out]; rfl, Hbj.out⟩

theorem rwrite_any (w : World) (ad : Option Addr) (cap n : Nat) (fs : List M.Fd) (hfn : n = fs.length) (hfs : Flds w w.heap.size ad fs) :
    Calls Try.prog 21 #[.slice ad n cap] w fun e w' => e = .returned (.tuple #[.string ⟨(M.wr fs).2.toArray⟩, .int .i64 (M.wr fs).1]) ∧ Below w.heap.size w w' := by
  by_cases h : n ≤ 4096
  · exact rwrite_short w ad cap n fs hfn hfs h
  · have hr : M.wr fs = (3, []) := by rw [M.wr, if_pos (by omega)]
    rw [hr]
    exact (rwrite_long w ad cap n (by rw [hfn]; exact hfs.1) (by omega)).mono fun e w' ⟨he, hw⟩ => ⟨he, by rw [← hw]; exact Below.refl _ _⟩
end Go.Proofs.Ytnnnnlcpmocnfaa
