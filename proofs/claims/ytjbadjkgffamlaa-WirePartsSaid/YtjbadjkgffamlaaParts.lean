/- The statement of the law WireParts is proved: for every two slices of fields and every number within the form's own reach, the law returns true, and each argument reads afterwards as it did; no condition of ours. -/
import Derived.Test.YtjbadjkgffamlaaRows
import Derived.Test.YtjbadjkgffamlaaOnto
import Derived.Test.YtjbadjkgffamlaaMath4
import Derived.Test.YtjbadjkgffamlaaBack
import Derived.LoopN
namespace Go.Proofs.Ytjbadjkgffamlaa.wireParts
open Go.ChangeShapes Go.WideShapes Go.ChangeAt Go.RowKit
open Go.ChangeMaps (open_string shut_string)
open Go.Proofs.Ytjbadjkgffamlaa.wireBack (write_any wr_cases)
set_option linter.unusedVariables false
set_option linter.unusedSimpArgs false

theorem own : ownKnob Try.prog.godebug = none := by kernel_rfl
section
variable {H : Type} {enc : TypeId × Value → H} {w : World}
theorem open_fds_nil {v : Value} {d : DataW H} {p : List MemPlace} {base : Nat} (hv : Value.okWide Try.prog w .any base 31 v) (h : DataW.Trod enc Try.prog w 0 (fun _ => true) true 31 v d p) :
    ∃ ad n cap fs, v = .slice ad n cap ∧ n = fs.length ∧ Flds w w.heap.size ad fs ∧ n ≤ cap ∧ (ad = none → cap = 0) := by
  obtain ⟨ad, n, cap, fs, rfl, hn, hfl⟩ := open_fds hv h
  refine ⟨ad, n, cap, fs, rfl, hn, hfl, ?_⟩
  obtain ⟨fuel, hf⟩ := h
  rcases Deep.open_slice Try.underlying31 hf with ⟨hcs, _⟩ | ⟨a, len', cap', m, k, D, Pl, hcs, _, hl, hm, hmm, hx, hi⟩
  · simp [Value.cells] at hcs
    obtain ⟨_, rfl, rfl⟩ := hcs
    exact ⟨Nat.le_refl _, fun _ => rfl⟩
  · simp [Value.cells] at hcs
    obtain ⟨rfl, rfl, rfl⟩ := hcs
    exact ⟨hl, fun h => by cases h⟩
end
theorem Flds_n {w : World} {B : Nat} {ad : Option Addr} {fs : List M.Fd} (h : Flds w B ad fs) : ∀ f ∈ fs, f.n < 18446744073709551616 := by
  intro f hf
  obtain ⟨a, b, c, l, hfit⟩ := h.fine f hf
  have := hfit.c1; have := hfit.c0
  rw [hfit.e]; simp only; omega

theorem wrE {w : World} {ad : Option Addr} {n cap : Nat} {fs : List M.Fd} (hn : n = fs.length) (hfl : Flds w w.heap.size ad fs) {e : Nat} {xs : List UInt8} (hwr : M.wr fs = (e, xs)) :
    ∀ W, Below w.heap.size w W → Calls Try.prog 20 #[.slice ad n cap] W fun en w' => en = .returned (.tuple #[.string ⟨xs.toArray⟩, .int .i64 (e : Int)]) ∧ Below W.heap.size W w' := fun W hb => by
  have := write_any W ad cap n fs hn ((hfl.keep hb).mono hb.size)
  rwa [hwr] at this

set_option maxHeartbeats 4000000 in
theorem walk_bad1 (w : World) (ad ad' : Option Addr) (n n' cap cap' : Nat) (at_ : Int) (fs gs : List M.Fd) (hn : n = fs.length) (hn' : n' = gs.length) (hfl : Flds w w.heap.size ad fs) (hfl' : Flds w w.heap.size ad' gs)
    (e : Nat) (he : e = 2 ∨ e = 3 ∨ e = 4) (hwr : M.wr fs = (e, [])) :
    Calls Try.prog 7 #[.slice ad n cap, .slice ad' n' cap', .int .i64 at_] w fun e w' => e = .returned (.bool true) ∧ Below w.heap.size w w' := by
  have HW := Lib.hid (wrE (cap := cap) hn hfl hwr)
  obtain ⟨e2, ys, h2⟩ : ∃ e2 ys, M.wr gs = (e2, ys) := ⟨_, _, rfl⟩
  have HV := Lib.hid (wrE (cap := cap') hn' hfl' h2)
  clear hwr hfl hn hfl' hn' h2
  rcases he with rfl | rfl | rfl
  all_goals
    go_enter Try.func7, Try.ntmps7
    go_wp2_with fail
    refine (lives_any _).mono ?_
    rintro e w1 ⟨rfl, hb1⟩
    have Hb1 := Lib.hid hb1
    clear hb1
    go_wp2_with fail
    refine (HW.out w1 Hb1.out).mono ?_
    rintro e w2 ⟨rfl, hb2⟩
    have Hb2 := Lib.hid (Hb1.out.trans (hb2.mono Hb1.out.size))
    clear hb2
    go_wp2_with fail
    refine (HV.out w2 Hb2.out).mono ?_
    rintro e w3 ⟨rfl, hb3⟩
    have Hb3 := Lib.hid (Hb2.out.trans (hb3.mono Hb2.out.size))
    clear hb3
    go_wp2
    go_ret
    exact ⟨rfl, Hb3.out⟩

set_option maxHeartbeats 4000000 in
theorem walk_bad2 (w : World) (ad ad' : Option Addr) (n n' cap cap' : Nat) (at_ : Int) (fs gs : List M.Fd) (hn : n = fs.length) (hn' : n' = gs.length) (hfl : Flds w w.heap.size ad fs) (hfl' : Flds w w.heap.size ad' gs)
    (xs : List UInt8) (hwr : M.wr fs = (0, xs)) (e : Nat) (he : e = 2 ∨ e = 3 ∨ e = 4) (hwr2 : M.wr gs = (e, [])) :
    Calls Try.prog 7 #[.slice ad n cap, .slice ad' n' cap', .int .i64 at_] w fun e w' => e = .returned (.bool true) ∧ Below w.heap.size w w' := by
  have HW := Lib.hid (wrE (cap := cap) hn hfl hwr)
  have HV := Lib.hid (wrE (cap := cap') hn' hfl' hwr2)
  clear hwr hfl hn hfl' hn' hwr2
  rcases he with rfl | rfl | rfl
  all_goals
    go_enter Try.func7, Try.ntmps7
    go_wp2_with fail
    refine (lives_any _).mono ?_
    rintro e w1 ⟨rfl, hb1⟩
    have Hb1 := Lib.hid hb1
    clear hb1
    go_wp2_with fail
    refine (HW.out w1 Hb1.out).mono ?_
    rintro e w2 ⟨rfl, hb2⟩
    have Hb2 := Lib.hid (Hb1.out.trans (hb2.mono Hb1.out.size))
    clear hb2
    go_wp2_with fail
    refine (HV.out w2 Hb2.out).mono ?_
    rintro e w3 ⟨rfl, hb3⟩
    have Hb3 := Lib.hid (Hb2.out.trans (hb3.mono Hb2.out.size))
    clear hb3
    go_wp2
    go_ret
    exact ⟨rfl, Hb3.out⟩

/-- both lists are messages; over the limits together -/
theorem read_over {fs gs : List M.Fd} (ha : fs.all M.may = true) (hb : gs.all M.may = true) (hna : ∀ f ∈ fs, f.n < 18446744073709551616) (hnb : ∀ f ∈ gs, f.n < 18446744073709551616)
    (h : 65536 < (M.enc fs).length + (M.enc gs).length ∨ 4096 < fs.length + gs.length) : ∃ e, (e = 4 ∨ e = 3) ∧ M.read (M.enc fs ++ M.enc gs) = .error e := by
  rw [M.read]
  by_cases h1 : 65536 < (M.enc fs ++ M.enc gs).length
  · rw [if_pos h1]; exact ⟨4, .inl rfl, rfl⟩
  · rw [if_neg h1]
    have hp := M.parse_enc (fs ++ gs) (by rw [List.all_append, ha, hb]; rfl) (by
      intro f hf
      rcases List.mem_append.1 hf with h | h
      · exact hna f h
      · exact hnb f h)
    rw [M.enc_append] at hp
    rw [hp]
    simp only
    rw [List.length_append] at h1
    rw [if_pos (by rw [List.length_append]; omega)]
    exact ⟨3, .inr rfl, rfl⟩

set_option maxHeartbeats 4000000 in
theorem walk_over (w : World) (ad ad' : Option Addr) (n n' cap cap' : Nat) (at_ : Int) (fs gs : List M.Fd) (hn : n = fs.length) (hn' : n' = gs.length) (hfl : Flds w w.heap.size ad fs) (hfl' : Flds w w.heap.size ad' gs)
    (hwr : M.wr fs = (0, M.enc fs)) (hwr2 : M.wr gs = (0, M.enc gs)) (ha : fs.all M.may = true) (hb : gs.all M.may = true) (hl1 : fs.length ≤ 4096) (hl2 : gs.length ≤ 4096) (he1 : (M.enc fs).length ≤ 65536) (he2 : (M.enc gs).length ≤ 65536)
    (h : 65536 < (M.enc fs).length + (M.enc gs).length ∨ 4096 < fs.length + gs.length) :
    Calls Try.prog 7 #[.slice ad n cap, .slice ad' n' cap', .int .i64 at_] w fun e w' => e = .returned (.bool true) ∧ Below w.heap.size w w' := by
  obtain ⟨e, he, hread⟩ := read_over ha hb (Flds_n hfl) (Flds_n hfl') h
  obtain ⟨xs, hxs⟩ : ∃ xs, xs = M.enc fs := ⟨_, rfl⟩
  obtain ⟨ys, hys⟩ : ∃ ys, ys = M.enc gs := ⟨_, rfl⟩
  rw [← hxs] at hwr he1 hread h
  rw [← hys] at hwr2 he2 hread h
  have HW := Lib.hid (wrE (cap := cap) hn hfl hwr)
  have HV := Lib.hid (wrE (cap := cap') hn' hfl' hwr2)
  have hadd : ∀ W, (Op.stringOp .add ⟨xs.toArray⟩ ⟨ys.toArray⟩).run Try.prog W = .ok (.string ⟨(xs ++ ys).toArray⟩) W := fun W => by
    rw [run_string_add_sum W _ _ (by simp [ByteArray.size]; omega), ByteArray.mk_append_mk]
  have hR : ∀ W, Calls Try.prog 22 #[.string ⟨(xs ++ ys).toArray⟩] W fun en w' => en = .returned (.tuple #[.slice none 0 0, .int .i64 (e : Int)]) ∧ Below W.heap.size W w' := fun W =>
    (read_any (xs ++ ys) W (by rw [List.length_append]; omega)).mono fun en w' hh => by
      have h2 := hh.2
      rw [hread] at h2
      exact ⟨h2, hh.1⟩
  have HR := Lib.hid hR
  have Hadd := Lib.hid hadd
  have hlen : (65536 : Int) < (xs.length : Int) + (ys.length : Int) ∨ ((xs.length : Int) + (ys.length : Int) ≤ 65536 ∧ (4096 : Int) < (n : Int) + (n' : Int)) := by omega
  have hn1 : n ≤ 4096 := by omega
  have hn2 : n' ≤ 4096 := by omega
  clear hwr hfl hn hfl' hn' hwr2 hR hadd hread ha hb h hxs hys hl1 hl2
  rcases he with rfl | rfl <;> rcases hlen with hlen | ⟨hle, hlen⟩
  all_goals
    go_enter Try.func7, Try.ntmps7
    go_wp2_with fail
    refine (lives_any _).mono ?_
    rintro e w1 ⟨rfl, hb1⟩
    have Hb1 := Lib.hid hb1
    clear hb1
    go_wp2_with fail
    refine (HW.out w1 Hb1.out).mono ?_
    rintro e w2 ⟨rfl, hb2⟩
    have Hb2 := Lib.hid (Hb1.out.trans (hb2.mono Hb1.out.size))
    clear hb2
    go_wp2_with fail
    refine (HV.out w2 Hb2.out).mono ?_
    rintro e w3 ⟨rfl, hb3⟩
    have Hb3 := Lib.hid (Hb2.out.trans (hb3.mono Hb2.out.size))
    clear hb3
    have hadd := Hadd.out
    go_wp2_with fail
    refine (HR.out w3).mono ?_
    rintro e w4 ⟨rfl, hb4⟩
    have Hb4 := Lib.hid (Hb3.out.trans (hb4.mono Hb3.out.size))
    clear hb4 hadd
    go_wp2
    go_ret
    exact ⟨rfl, Hb4.out⟩

theorem read_ne {s : List UInt8} {e : Nat} (h : M.read s = .error e) : e ≠ 0 := by
  unfold M.read at h
  split at h
  · injection h with h; omega
  · split at h
    · rename_i e' hp
      injection h with h
      subst h
      have := M.parse_err_is s.length s (Nat.le_refl _) _ hp
      omega
    · split at h
      · injection h with h; omega
      · cases h
theorem read_parse {s : List UInt8} {ks : List M.Fd} (h : M.read s = .ok ks) : M.parse s = .ok ks := by
  unfold M.read at h
  split at h
  · cases h
  · split at h
    · cases h
    · rename_i fs hp
      split at h
      · cases h
      · rw [hp, ← h]

set_option maxHeartbeats 16000000 in
theorem walk_good (w : World) (ad ad' : Option Addr) (n n' cap cap' : Nat) (at_ : Int) (fs gs : List M.Fd) (hn : n = fs.length) (hn' : n' = gs.length) (hfl : Flds w w.heap.size ad fs) (hfl' : Flds w w.heap.size ad' gs)
    (hnil : n ≤ cap ∧ (ad = none → cap = 0)) (hat1 : -9223372036854775808 ≤ at_) (hat2 : at_ ≤ 9223372036854775807)
    (hwr : M.wr fs = (0, M.enc fs)) (hwr2 : M.wr gs = (0, M.enc gs)) (ha : fs.all M.may = true) (hb : gs.all M.may = true) (hl : fs.length + gs.length ≤ 4096) (he : (M.enc fs).length + (M.enc gs).length ≤ 65536) :
    Calls Try.prog 7 #[.slice ad n cap, .slice ad' n' cap', .int .i64 at_] w fun e w' => e = .returned (.bool true) ∧ Below w.heap.size w w' := by
  obtain ⟨xs, hxs⟩ : ∃ xs, xs = M.enc fs := ⟨_, rfl⟩
  obtain ⟨ys, hys⟩ : ∃ ys, ys = M.enc gs := ⟨_, rfl⟩
  have hna := Flds_n hfl
  have hnb := Flds_n hfl'
  have hread : M.read (xs ++ ys) = .ok (fs ++ gs) := by
    have := M.read_enc (l := fs ++ gs) (by rw [List.all_append, ha, hb]; rfl) (by
      intro f hf
      rcases List.mem_append.1 hf with h | h
      · exact hna f h
      · exact hnb f h) (by rw [M.enc_append, List.length_append]; exact he) (by rw [List.length_append]; exact hl)
    rwa [M.enc_append, ← hxs, ← hys] at this
  rw [← hxs] at hwr he
  rw [← hys] at hwr2 he
  have HW := Lib.hid (wrE (cap := cap) hn hfl hwr)
  have HV := Lib.hid (wrE (cap := cap') hn' hfl' hwr2)
  have hadd : ∀ W, (Op.stringOp .add ⟨xs.toArray⟩ ⟨ys.toArray⟩).run Try.prog W = .ok (.string ⟨(xs ++ ys).toArray⟩) W := fun W => by
    rw [run_string_add_sum W _ _ (by simp [ByteArray.size]; omega), ByteArray.mk_append_mk]
  have hR : ∀ W, Calls Try.prog 22 #[.string ⟨(xs ++ ys).toArray⟩] W fun en w' => ∃ ad2 cap2, en = .returned (.tuple #[.slice ad2 (n + n') cap2, .int .i64 0]) ∧ Flds w' w'.heap.size ad2 (fs ++ gs) ∧ Below W.heap.size W w' := fun W => by
    refine (read_any (xs ++ ys) W (by rw [List.length_append]; omega)).mono fun en w' h => ?_
    obtain ⟨hb', h⟩ := h
    rw [hread] at h
    obtain ⟨v, hev, hrow, hfine, _⟩ := h
    obtain ⟨ad2, cap2, rfl, hf2⟩ := hrow.flds hfine (by rw [List.length_append]; omega)
    exact ⟨ad2, cap2, by rw [hev, List.length_append, hn, hn'], hf2, hb'⟩
  have HR := Lib.hid hR
  have Hadd := Lib.hid hadd
  have hle : (xs.length : Int) + (ys.length : Int) ≤ 65536 := by omega
  have hnn : (n : Int) + (n' : Int) ≤ 4096 := by omega
  have Hfl := Lib.hid hfl
  have Hfl' := Lib.hid hfl'
  have Hn := Lib.hid hn
  have Hn' := Lib.hid hn'
  have Hxs := Lib.hid hxs
  have Hys := Lib.hid hys
  have Ha := Lib.hid ha
  have Hna := Lib.hid hna
  clear hwr hfl hn hfl' hn' hwr2 hR hadd hread hna hnb hxs hys ha hb he hl
  go_enter Try.func7, Try.ntmps7
  go_wp2_with fail
  refine (lives_any _).mono ?_
  rintro e w1 ⟨rfl, hb1⟩
  have Hb1 := Lib.hid hb1
  clear hb1
  go_wp2_with fail
  refine (HW.out w1 Hb1.out).mono ?_
  rintro e w2 ⟨rfl, hb2⟩
  have Hb2 := Lib.hid (Hb1.out.trans (hb2.mono Hb1.out.size))
  clear hb2
  go_wp2_with fail
  refine (HV.out w2 Hb2.out).mono ?_
  rintro e w3 ⟨rfl, hb3⟩
  have Hb3 := Lib.hid (Hb2.out.trans (hb3.mono Hb2.out.size))
  clear hb3
  have hadd := Hadd.out
  go_wp2_with fail
  refine (HR.out w3).mono ?_
  rintro e w4 ⟨ad4, cap4, rfl, hf4, hb4⟩
  have Hb4 := Lib.hid (Hb3.out.trans (hb4.mono Hb3.out.size))
  have Hf4 := Lib.hid hf4
  clear hb4 hadd hf4
  have Hnil := Lib.hid hnil
  clear hnil
  have Hrow0 := Lib.hid (show FRow (w4.alloc (.cells #[] 39)) w4.heap.size (.slice (some ⟨w4.heap.size, 0, none⟩) 0 0) [] from World.ownsRow_made w4 #[] 0 (Nat.le_refl _) (by decide) rfl)
  have Hb4' := Lib.hid (Hb4.out.alloc Hb4.out.size (.cells #[] 39))
  have Hfa := Lib.hid ((Hfl.out.keep Hb4'.out).mono Hb4'.out.size)
  have hlens : ([] : List M.Fd).length + fs.length ≤ 1000000 := by have := Hn.out; simp; omega
  have Hlens := Lib.hid hlens
  clear hlens
  go_wp2_with (at_builtin; refine wp_app_fs (by simp [Region.wanted, yielded]) (.tmp 67) (.tmp 68) rfl w4.heap.size _ [] rfl Hrow0.out ad cap n fs rfl Hn.out Hfa.out Hlens.out (by simp) ?_)
  intro v5 w5 hrow5' hgr5
  have hrow5 : FRow w5 w4.heap.size v5 fs := hrow5'
  clear hrow5'
  have hb45 : Below w4.heap.size w4 w5 := ((Below.refl _ w4).alloc (Nat.le_refl _) _).trans (hgr5.below (by simp) (fun k hk => (Hrow0.out.lt k hk).1))
  have Hb45 := Lib.hid hb45
  have Hb5 := Lib.hid (Hb4.out.trans (hb45.mono Hb4.out.size))
  have Hrow5 := Lib.hid hrow5
  have Hfb := Lib.hid ((Hfl'.out.keep Hb5.out).mono Hb5.out.size)
  have hlens : fs.length + gs.length ≤ 1000000 := by have := Hn.out; have := Hn'.out; omega
  have Hlens2 := Lib.hid hlens
  clear hlens hrow5 hgr5 hb45
  go_wp2_with (at_builtin; (refine wp_app_fs (by simp [Region.wanted, yielded]) (.tmp 69) (.tmp 70) rfl w4.heap.size v5 fs rfl Hrow5.out ad' cap' n' gs rfl Hn'.out Hfb.out Hlens2.out Hb45.out.size ?_))
  intro v6 w6 hrow6 hgr6
  have hb46 : Below w4.heap.size w4 w6 := Hb45.out.trans (hgr6.below Hb45.out.size (fun k hk => (Hrow5.out.lt k hk).1))
  have hfine : ∀ f ∈ fs ++ gs, Fine f := by
    intro f hf
    rcases List.mem_append.1 hf with h | h
    · exact Hfl.out.fine f h
    · exact Hfl'.out.fine f h
  have hll : (fs ++ gs).length = n + n' := by rw [List.length_append, Hn.out, Hn'.out]
  obtain ⟨ad6, cap6, hv6, hf6⟩ := hrow6.flds hfine (by rw [hll]; omega)
  rw [hll] at hv6
  have hS := same_yes w6 ad4 ad6 cap4 cap6 (n + n') (fs ++ gs) hll.symm ((Hf4.out.keep hb46).mono hb46.size) hf6
  subst hv6
  have Hb6 := Lib.hid (Hb4.out.trans (hb46.mono Hb4.out.size))
  have HS := Lib.hid hS
  clear hb46 hrow6 hgr6 hfine hll hf6 hS
  go_wp2_with fail
  refine (HS.out).mono ?_
  rintro e w7 ⟨rfl, hb7⟩
  have Hb7 := Lib.hid (Hb6.out.trans (hb7.mono Hb6.out.size))
  clear hb7
  by_cases hneg : at_ < 0
  · go_wp2
    go_ret
    exact ⟨rfl, Hb7.out⟩
  · by_cases hbig : (xs.length : Int) < at_
    · have hneg' : 0 ≤ at_ := by omega
      clear hneg
      go_wp2
      go_ret
      exact ⟨rfl, Hb7.out⟩
    · obtain ⟨k, rfl⟩ := Int.eq_ofNat_of_zero_le (show 0 ≤ at_ by omega)
      have hkl : (k : Int) ≤ (xs.length : Int) := by omega
      have hk0 : (0 : Int) ≤ (k : Int) := by omega
      have het := extract_take xs k
      clear hneg hbig
      cases hrd : M.read (xs.take k) with
      | error e =>
        have hne0 := read_ne hrd
        obtain ⟨E, hE⟩ : ∃ E : Int, E = (e : Int) := ⟨_, rfl⟩
        have he0 : (E == 0) = false := by rw [beq_eq_false_iff_ne]; omega
        have he1 : (E != 0) = true := by rw [bne_iff_ne]; omega
        have hR2 : ∀ W, Calls Try.prog 22 #[.string ⟨(xs.take k).toArray⟩] W fun en w' => en = .returned (.tuple #[.slice none 0 0, .int .i64 E]) ∧ Below W.heap.size W w' := fun W =>
          (read_any (xs.take k) W (by have := List.length_take_le k xs; omega)).mono fun en w' hh => by
            have h2 := hh.2
            rw [hrd] at h2
            rw [hE]
            exact ⟨h2, hh.1⟩
        have HR2 := Lib.hid hR2
        clear hR2 hrd hE hne0
        go_wp2_with fail
        refine (HR2.out w7).mono ?_
        rintro e w8 ⟨rfl, hb8⟩
        have Hb8 := Lib.hid (Hb7.out.trans (hb8.mono Hb7.out.size))
        clear hb8
        clear het
        go_wp2
        refine wp_loop_rounds 1 ?_
        rw [rounds_succ]
        go_wp2
        go_ret
        exact ⟨rfl, Hb8.out⟩
      | ok ks =>
        have hcut := M.parse_cut fs Ha.out Hna.out (xs.take k) (xs.drop k) ks (by rw [List.take_append_drop, Hxs.out]) (read_parse hrd)
        obtain ⟨hks, hek⟩ := hcut
        have hkm : (M.enc ks).length = k := by rw [← hek, List.length_take]; omega
        obtain ⟨m, hm⟩ : ∃ m, m = ks.length := ⟨_, rfl⟩
        have hmn : (m : Int) ≤ (n : Int) := by
          have h1 := congrArg List.length hks
          rw [List.length_take] at h1
          have := Hn.out
          omega
        have hmay : ∀ f ∈ ks, M.may f = true := by
          intro f hf
          rw [hks] at hf
          exact List.all_eq_true.1 Ha.out f (List.mem_of_mem_take hf)
        have hR2 : ∀ W, Calls Try.prog 22 #[.string ⟨(xs.take k).toArray⟩] W fun en w' => ∃ ad8 cap8, en = .returned (.tuple #[.slice ad8 m cap8, .int .i64 0]) ∧ Flds w' w'.heap.size ad8 ks ∧ Below W.heap.size W w' := fun W => by
          refine (read_any (xs.take k) W (by have := List.length_take_le k xs; omega)).mono fun en w' hh => ?_
          obtain ⟨hb', h⟩ := hh
          rw [hrd] at h
          obtain ⟨v, hev, hrow, hfine, _⟩ := h
          obtain ⟨ad8, cap8, rfl, hf8⟩ := hrow.flds hfine (by omega)
          exact ⟨ad8, cap8, by rw [hev, hm], hf8, hb'⟩
        have HR2 := Lib.hid hR2
        have Hks := Lib.hid hks
        have Hkm := Lib.hid hkm
        have Hm := Lib.hid hm
        have Hmay := Lib.hid hmay
        clear hR2 hrd hks hek hkm hm hmay
        go_wp2_with fail
        refine (HR2.out w7).mono ?_
        rintro e w8 ⟨ad8, cap8, rfl, hf8, hb8⟩
        have Hb8 := Lib.hid (Hb7.out.trans (hb8.mono Hb7.out.size))
        have Hf8 := Lib.hid hf8
        clear hb8 hf8
        go_wp2
        go_loopw [15, 92] (fun s i wr => ∃ (j t : Nat), i = .int .i64 (j : Int) ∧ j ≤ m ∧ s = .int .i64 (t : Int) ∧ t = (M.enc (ks.take j)).length ∧ t ≤ 65536 ∧ Below w8.heap.size w8 wr) (fun _ i _ => m - (intOf i).toNat)
        case atStart => exact ⟨0, 0, rfl, by omega, rfl, rfl, by omega, Below.refl _ _⟩
        case round =>
          obtain ⟨j, t, rfl, hj, rfl, ht, htb, hbel⟩ := hrel
          have Ht := Lib.hid ht
          have Hbel := Lib.hid hbel
          clear ht hbel
          have Hbw := Lib.hid (Hb8.out.trans (Hbel.out.mono Hb8.out.size))
          by_cases hlt : j < m
          · have hne : ks ≠ [] := by rintro rfl; have := Hm.out; simp at this; omega
            obtain ⟨g, off, rfl, hg, hi⟩ := (Hf8.out.keep Hbel.out).2 hne
            obtain ⟨f, hf⟩ : ∃ f, ks[j]? = some f := ⟨ks[j]'(by have := Hm.out; omega), by simp⟩
            obtain ⟨a, b, c, l, hfit, q⟩ := hi j f hf
            obtain ⟨q0, q1, q2, q3⟩ := q
            have hmb : M.may f = true := Hmay.out f (List.mem_of_getElem? hf)
            obtain ⟨z, hz⟩ : ∃ z : Nat, z = (M.enc1 f).length := ⟨_, rfl⟩
            have hsz : ∀ W, Calls Try.prog 25 #[.agg (fcells a b c l)] W fun e w' => e = .returned (.int .i64 (z : Int)) ∧ Below W.heap.size W w' := fun W => by
              rw [hz, hfit.e]
              exact size_yes a b c l W hfit.b0 hfit.b1 hfit.c0 hfit.c1 hfit.hl (by rw [← hfit.e]; exact hmb)
            have hnext : t + z = (M.enc (ks.take (j + 1))).length := by
              rw [List.take_add_one, hf, Ht.out, hz]
              simp [M.enc]
            have htz : t + z ≤ 65536 := by
              have h1 : (M.enc (ks.take (j + 1))).length + (M.enc (ks.drop (j + 1))).length = (M.enc ks).length := by
                rw [← List.length_append, ← M.enc_append, List.take_append_drop]
              have := Hkm.out
              omega
            have Hsz := Lib.hid hsz
            have Hnext := Lib.hid hnext
            clear hsz hnext hz hmb hfit hf hi hne het hg
            go_wp2_with fail
            refine (Hsz.out _).mono ?_
            rintro e w9 ⟨rfl, hb9⟩
            have Hb9 := Lib.hid ((Hbel.out.alloc Hbel.out.size _).trans (hb9.mono (by have := Hbel.out.size; simp; omega)))
            clear hb9
            go_wp2
            go_roundw
            case rel => exact ⟨j + 1, t + z, by go_num, by omega, by go_num, Hnext.out, by omega, Hb9.out⟩
            case measure => simp [intOf]; omega
          · have hjn : j = m := by omega
            have htx : t = k := by rw [Ht.out, ← Hkm.out, List.take_of_length_le (by have := Hm.out; omega)]
            have hcapn := Hnil.out.1
            have hmc : (m : Int) ≤ (cap : Int) := by omega
            have htx' : ((t : Int) == (k : Int)) = true := by simp; omega
            have hfa : Flds wr wr.heap.size ad ks := by rw [Hks.out]; exact ((Hfl.out.keep Hbw.out).mono Hbw.out.size).take _
            have hS := same_yes wr ad8 ad cap8 cap m ks Hm.out ((Hf8.out.keep Hbel.out).mono Hbel.out.size) hfa
            have HS2 := Lib.hid hS
            clear hS hfa hjn htx hcapn het
            go_wp2_with fail
            refine (HS2.out).mono ?_
            rintro e w9 ⟨rfl, hb9⟩
            have Hb9 := Lib.hid (Hbw.out.trans (hb9.mono Hbw.out.size))
            clear hb9
            go_wp2
            go_ret
            exact ⟨rfl, Hb9.out⟩

theorem walk (w : World) (ad ad' : Option Addr) (n n' cap cap' : Nat) (at_ : Int) (fs gs : List M.Fd) (hn : n = fs.length) (hn' : n' = gs.length) (hfl : Flds w w.heap.size ad fs) (hfl' : Flds w w.heap.size ad' gs)
    (hnil : n ≤ cap ∧ (ad = none → cap = 0)) (hat1 : -9223372036854775808 ≤ at_) (hat2 : at_ ≤ 9223372036854775807) :
    Calls Try.prog 7 #[.slice ad n cap, .slice ad' n' cap', .int .i64 at_] w fun e w' => e = .returned (.bool true) ∧ Below w.heap.size w w' := by
  rcases wr_cases fs with ⟨e, he, hwr⟩ | ⟨hwr, hall, hlen, hel⟩
  · exact walk_bad1 w ad ad' n n' cap cap' at_ fs gs hn hn' hfl hfl' e he hwr
  · rcases wr_cases gs with ⟨e, he, hwr2⟩ | ⟨hwr2, hall2, hlen2, hel2⟩
    · exact walk_bad2 w ad ad' n n' cap cap' at_ fs gs hn hn' hfl hfl' _ hwr e he hwr2
    · by_cases h : 65536 < (M.enc fs).length + (M.enc gs).length ∨ 4096 < fs.length + gs.length
      · exact walk_over w ad ad' n n' cap cap' at_ fs gs hn hn' hfl hfl' hwr hwr2 hall hall2 hlen hlen2 hel hel2 h
      · exact walk_good w ad ad' n n' cap cap' at_ fs gs hn hn' hfl hfl' hnil hat1 hat2 hwr hwr2 hall hall2 (by omega) (by omega)

theorem laidOut : laidOutB Try.prog = true := by kernel_rfl

set_option maxRecDepth 100000 in
theorem lifted (os : Os) (started : os.Started) (H : Type) (enc : TypeId × Value → H) :
    ReturnsInHanded {} Try.checked os 7 .any (Rows.wirePartsSpec.pre6 enc Try.prog Try.f7 Rows.wirePartsRow.domain false) (Rows.wirePartsSpec.post enc Try.prog Try.f7 false true false false) := by
  refine returnsInHanded_of_change (C := Try.checked) own started (by kernel_rfl) Try.func7
    (ChangeSpec.witness6 (enc := enc) (C := Try.checked) false ⟨#[], #[.slice none 0 0, .slice none 0 0, .int .i64 0], []⟩ 8 (by kernel_rfl) (by kernel_rfl) (by kernel_rfl) (by kernel_rfl)) ?_
  intro W base args ds gs before hval0 hW hcnd _
  have hval : ∀ (j : Nat) t v, Try.f7.params[j]? = some t → args[j]? = some v → Value.okWide Try.prog W .any base t v := hval0
  have hW' := hW
  obtain ⟨p, q, hA0, hV, rfl, hfz, hnd⟩ := hW
  have hA : DataW.TrodAll enc Try.prog W 0 (fun _ => true) true Try.f7.params.toList args.toList ds p := hA0
  rw [Try.params7] at hA hval
  obtain ⟨v0, vs0, d0, ds0, p0, q0, hargs, rfl, rfl, h0, r0⟩ := trodAll_cons hA
  obtain ⟨v1, vs1, d1, ds1, p1, q1, rfl, rfl, rfl, h1, r1⟩ := trodAll_cons r0
  obtain ⟨v2, vs2, d2, ds2, p2, q2, rfl, rfl, rfl, h2, r2⟩ := trodAll_cons r1
  obtain ⟨rfl, rfl, rfl⟩ := trodAll_nil r2
  obtain rfl : args = #[v0, v1, v2] := by cases args; simp_all
  obtain ⟨rfl, rfl⟩ := trodVars_none hV
  have k0 := h0
  have k1 := h1
  have lt0 : ∀ x ∈ p0, x.block < W.heap.size := by obtain ⟨m, hm⟩ := k0; exact DataW.trod_lt m _ _ _ hm
  have lt1 : ∀ x ∈ p1, x.block < W.heap.size := by obtain ⟨m, hm⟩ := k1; exact DataW.trod_lt m _ _ _ hm
  obtain ⟨a2, rfl, rfl, rfl, w2⟩ := open_int Try.underlying3 (hval 2 3 v2 rfl rfl) h2
  obtain ⟨ad, n, cap, fs, rfl, hn, hfl, hnil⟩ := open_fds_nil (hval 0 31 v0 rfl rfl) h0
  obtain ⟨ad', n', cap', gs', rfl, hn', hfl', hnil'⟩ := open_fds_nil (hval 1 31 v1 rfl rfl) h1
  have b2 := bounds_i64 w2
  clear hA0 hval0
  refine (walk W ad ad' n n' cap cap' a2 fs gs' hn hn' hfl hfl' hnil b2.1 b2.2).mono fun e W' ⟨he, bel⟩ => ?_
  subst he
  exact ⟨_, rfl, _, _, _, [], _, [], hW', trodAll_mk1 (shut_bool Try.underlying4 _), (trodAll_cons_mk (Below.trod laidOut (by kernel_rfl) (of_decide_eq_true (by kernel_rfl)) k0 bel lt0) (trodAll_cons_mk (Below.trod laidOut (by kernel_rfl) (of_decide_eq_true (by kernel_rfl)) k1 bel lt1) (trodAll_cons_mk (shut_int Try.underlying3 w2) trodAll_mk0))), rfl, bel.frame _, fun h => by cases h⟩

theorem over : Rows.wirePartsRow.holds Try.pinned (OpenSpec.ofChange Rows.wirePartsSpec) :=
  OpenClaim.holds_of_wide 7 Try.f7 rfl rfl rfl rfl rfl rfl rfl ⟨rfl, rfl, rfl, rfl, rfl⟩ rfl rfl rfl rfl rfl (by kernel_rfl) Try.func7 (by kernel_rfl)
    (of_decide_eq_true (by kernel_rfl)) (by unfold Func.isWrapper; rw [if_neg (by decide +kernel)]; exact ⟨rfl, rfl⟩)
    (fun os started H enc _ => lifted os started H enc)

theorem proved : Rows.WirePartsSaid := over
#print axioms proved
end Go.Proofs.Ytjbadjkgffamlaa.wireParts
