/- THE WALKS OVER THE DOCUMENT's OWN ANSWERS FOR FIELDS: May, low, one, Size, number. -/
import Derived.Test.YtnnnnlcpmocnfaaGreatDoorRow
import Derived.Deep.RegionHeld3
namespace Go.Proofs.YtnnnnlcpmocnfaaGreatDoor
open Go.RowKit
set_option linter.unusedVariables false
set_option linter.unusedSimpArgs false

set_option maxHeartbeats 1000000 in
theorem rmay_any (a b c : Int) (l : List UInt8) (w : World) (hb0 : 0 ≤ b) (hb1 : b ≤ 255) (hc0 : 0 ≤ c) (hl : l.length ≤ 9223372036854775807) :
    Calls Tryz.prog 81 #[.agg (fcells a b c l)] w fun e w' => e = .returned (.bool (M.may ⟨a, b.toNat, c.toNat, l⟩)) ∧ w.alloc (.cells (fcells a b c l) 73) = w' := by
  obtain ⟨r, hr⟩ : ∃ r, M.may ⟨a, b.toNat, c.toNat, l⟩ = r := ⟨_, rfl⟩
  rw [hr]
  have Hr := Lib.hid hr; clear hr
  by_cases h1 : a < 1
  · go_enter Tryz.func81, Tryz.ntmps81
    go_wp2
    go_ret
    exact ⟨ret_bool (by rw [← Hr.out]; simp [M.may]; omega), rfl⟩
  · by_cases h2 : 536870911 < a
    · go_enter Tryz.func81, Tryz.ntmps81
      go_wp2
      go_ret
      exact ⟨ret_bool (by rw [← Hr.out]; simp [M.may]; omega), rfl⟩
    · have g1 : 1 ≤ a := by omega
      have g2 : a ≤ 536870911 := by omega
      clear h1 h2
      by_cases b0 : b = 0
      · subst b0
        go_enter Tryz.func81, Tryz.ntmps81
        go_wp2
        go_ret
        exact ⟨ret_bool (by rw [← Hr.out, may_of g1 g2]; simp), rfl⟩
      · by_cases b1 : b = 1
        · subst b1
          go_enter Tryz.func81, Tryz.ntmps81
          go_wp2
          go_ret
          exact ⟨ret_bool (by rw [← Hr.out, may_of g1 g2]; simp), rfl⟩
        · by_cases b5 : b = 5
          · subst b5
            cases l with
            | nil =>
              go_enter Tryz.func81, Tryz.ntmps81
              go_wp2
              go_ret
              exact ⟨ret_bool (by rw [← Hr.out, may_of g1 g2]; simp), rfl⟩
            | cons x t =>
              go_enter Tryz.func81, Tryz.ntmps81
              go_wp2
              go_ret
              exact ⟨ret_bool (by rw [← Hr.out, may_of g1 g2]; simp), rfl⟩
          · by_cases b2 : b = 2
            · subst b2
              by_cases c0 : c = 0
              · subst c0
                go_enter Tryz.func81, Tryz.ntmps81
                go_wp2
                go_ret
                exact ⟨ret_bool (by rw [← Hr.out, may_of g1 g2]; simp; omega), rfl⟩
              · have hc : (c == 0) = false := by simp [c0]
                go_enter Tryz.func81, Tryz.ntmps81
                go_wp2
                go_ret
                exact ⟨ret_bool (by rw [← Hr.out, may_of g1 g2]; simp; omega), rfl⟩
            · have e0 : (b == 0) = false := by simp [b0]
              have e1 : (b == 1) = false := by simp [b1]
              have e5 : (b == 5) = false := by simp [b5]
              have e2 : (b == 2) = false := by simp [b2]
              go_enter Tryz.func81, Tryz.ntmps81
              go_wp2
              go_ret
              exact ⟨ret_bool (by rw [← Hr.out, may_of g1 g2, if_neg (by omega), if_neg (by omega), if_neg (by omega)]), rfl⟩


theorem le_step (k j : Nat) (x : Nat) (h : j < k) : M.le (k - j) x = M.by8 (x % 256) :: M.le (k - (j + 1)) (x / 256) := by
  obtain ⟨m, hm⟩ : ∃ m, k - j = m + 1 := ⟨k - j - 1, by omega⟩
  rw [hm, M.le, show k - (j + 1) = m by omega]

set_option maxHeartbeats 1000000 in
theorem low_any (n : Int) (k : Nat) (w : World) (h0 : 0 ≤ n) (h1 : n ≤ 18446744073709551615) (hk8 : k ≤ 8) :
    Calls Tryz.prog 94 #[.int .u64 n, .int .i64 (k : Int)] w fun e w' => e = .returned (.string ⟨(M.le k n.toNat).toArray⟩) ∧ Below w.heap.size w w' := by
  go_enter Tryz.func94, Tryz.ntmps94
  go_wp2
  go_loopw [5, 0, 6] (fun v m i wr => ∃ (j : Nat) (x : Int) (ys : List UInt8), i = .int .i64 (j : Int) ∧ j ≤ k ∧ m = .int .u64 x ∧ 0 ≤ x ∧ x ≤ 18446744073709551615 ∧ M.le k n.toNat = ys ++ M.le (k - j) x.toNat ∧ ys.length = j ∧ Bytes 5 wr w.heap.size v ys ∧ Below w.heap.size w wr) (fun _ _ i _ => k - (intOf i).toNat)
  case atStart => exact ⟨0, n, [], rfl, by omega, rfl, h0, h1, rfl, rfl, Bytes.nil _ _, Below.refl _ _⟩
  case round =>
    obtain ⟨j, x, ys, rfl, hj, rfl, hx0, hx1, hys, hyl, hown1, hg⟩ := hrel
    have hle : ys.length ≤ 140737488355000 := by omega
    have Hys := Lib.hid hys; clear hys
    have Hyl := Lib.hid hyl; clear hyl
    have Hle := Lib.hid hle; clear hle
    have Hg := Lib.hid hg; clear hg
    by_cases hlt : j < k
    · go_wp2_with (at_builtin; refine wp_app_byte Tryz.info5 Tryz.underlying110 rfl _ _ rfl w.heap.size _ _ rfl hown1 (M.by8 (x.toNat % 256)) _ (B_of (by omega) (by omega)) rfl Hle.out Hg.out.size ?_)
      · intro v' w1 hown' hg'
        have hbel := Hg.out.trans (hg'.below Hg.out.size (fun j hj => (hown1.lt j hj).1))
        have Hbel := Lib.hid hbel
        clear hbel
        go_wp2
        go_roundw
        case rel =>
          refine ⟨j + 1, x / 256, ys ++ [M.by8 (x.toNat % 256)], by go_num, by omega, by go_num, by omega, by omega, ?_, by simp [Hyl.out], by simpa using hown', Hbel.out⟩
          rw [Hys.out, le_step k j x.toNat hlt, show (x / 256).toNat = x.toNat / 256 by omega]; simp
        case measure => simp [intOf]; omega
    · have e := Hys.out
      rw [show k - j = 0 by omega, M.le, List.append_nil] at e
      have hconv := hown1.conv Tryz.underlying110 Tryz.underlying5 Tryz.underlying9
      have E := Lib.hid e
      clear e
      go_wp2
      go_ret
      exact ⟨by rw [E.out]; rfl, Hg.out⟩

theorem unle_drop (l : List UInt8) (j : Nat) (h : j < l.length) : M.unle (l.drop j) = l[j].toNat + 256 * M.unle (l.drop (j + 1)) := by
  rw [List.drop_eq_getElem_cons h, M.unle]

set_option maxHeartbeats 1000000 in
theorem number_any (l : List UInt8) (w : World) (hl : l.length ≤ 8) :
    Calls Tryz.prog 97 #[.string ⟨l.toArray⟩] w fun e w' => e = .returned (.int .u64 (M.unle l : Int)) ∧ w = w' := by
  go_enter Tryz.func97, Tryz.ntmps97
  go_wp2
  go_loop [3, 4] (fun n i => ∃ (x : Int) (acc : Nat), i = .int .i64 x ∧ -1 ≤ x ∧ x < l.length ∧ n = .int .u64 (acc : Int) ∧ acc = M.unle (l.drop (x + 1).toNat)) (fun _ i => (intOf i + 1).toNat)
  case atStart => exact ⟨(l.length : Int) - 1, 0, rfl, by omega, by omega, rfl, by rw [show ((l.length : Int) - 1 + 1).toNat = l.length by omega, List.drop_length]; rfl⟩
  case round =>
    obtain ⟨x, acc, rfl, hx0, hx1, rfl, hacc⟩ := hrel
    by_cases hx : 0 ≤ x
    · obtain ⟨j, rfl⟩ := Int.eq_ofNat_of_zero_le hx
      have hjl : j < l.length := by omega
      obtain ⟨c, hc⟩ : ∃ c : Int, c = (l[j].toNat : Int) := ⟨_, rfl⟩
      have hc0 : 0 ≤ c := by omega
      have hc1 : c ≤ 255 := by have := l[j].toNat_lt; omega
      have hix := fun W => rd_index_str (P := Tryz.prog) Tryz.underlying9 l j hjl c hc W
      have hn := unle_drop l j hjl
      rw [show ((j : Int) + 1).toNat = j + 1 by omega] at hacc
      have hb := M.unle_lt (l.drop (j + 1))
      rw [← hacc, List.length_drop] at hb
      have hp : 256 ^ (l.length - (j + 1)) ≤ 256 ^ 7 := Nat.pow_le_pow_right (by decide) (by omega)
      have e7 : (256 : Nat) ^ 7 = 72057594037927936 := by decide
      rw [e7] at hp
      have hab : (acc : Int) ≤ 72057594037927935 := by omega
      rw [← hacc] at hn
      have hsum : 256 * (acc : Int) + c = ((l[j].toNat + 256 * acc : Nat) : Int) := by omega
      rw [← hn] at hsum
      have Hsum := Lib.hid hsum
      have hj1 : ((j : Int) - 1 + 1).toNat = j := by omega
      have Hj1 := Lib.hid hj1
      clear hacc hb hp e7 hn hsum hc hj1
      go_wp2
      go_round
      case rel => exact ⟨(j : Int) - 1, M.unle (l.drop j), rfl, by omega, by omega, by rw [Hsum.out], by rw [Hj1.out]⟩
      case measure => first | (simp [intOf]; done) | (simp [intOf]; omega)
    · have hm : (x + 1).toNat = 0 := by omega
      rw [hm, List.drop_zero] at hacc
      have Hacc := Lib.hid hacc
      clear hacc hm
      have hneg : x < 0 := by omega
      go_wp2
      go_ret
      exact ⟨by rw [Hacc.out]; rfl, rfl⟩
end Go.Proofs.YtnnnnlcpmocnfaaGreatDoor

/- THE WALKS OVER THE DOCUMENT's OWN one, Size. -/
namespace Go.Proofs.YtnnnnlcpmocnfaaGreatDoor
open Go.RowKit
set_option linter.unusedVariables false
set_option linter.unusedSimpArgs false

theorem run_cat (xs ys : List UInt8) (h : xs.length + ys.length ≤ 9223372036854775807) (W : World) : (Op.stringOp .add ⟨xs.toArray⟩ ⟨ys.toArray⟩).run Tryz.prog W = .ok (.string ⟨(xs ++ ys).toArray⟩) W := by
  rw [run_string_add_sum W _ _ (by simp [ByteArray.size]; omega), ByteArray.mk_append_mk]

set_option maxHeartbeats 4000000 in
theorem one_any (a b c : Int) (l : List UInt8) (w : World) (hb0 : 0 ≤ b) (hb1 : b ≤ 255) (hc0 : 0 ≤ c) (hc1 : c ≤ 18446744073709551615) (hm : M.may ⟨a, b.toNat, c.toNat, l⟩ = true) :
    Calls Tryz.prog 82 #[.agg (fcells a b c l)] w fun e w' => e = .returned (.string ⟨(M.enc1 ⟨a, b.toNat, c.toNat, l⟩).toArray⟩) ∧ Below w.heap.size w w' := by
  obtain ⟨h1, h2, hcase⟩ := may_cases hb0 hc0 hm
  clear hm
  obtain ⟨en, hen⟩ : ∃ en, M.enc1 ⟨a, b.toNat, c.toNat, l⟩ = en := ⟨_, rfl⟩
  rw [hen]
  obtain ⟨ks, hks⟩ : ∃ ks, ks = M.vnum (a * 8 + b).toNat := ⟨_, rfl⟩
  have hr2 : en = ks ++ M.body ⟨a, b.toNat, c.toNat, l⟩ := by
    rw [← hen, M.enc1, M.key, hks]
    congr 2
    simp only
    omega
  have hcall : ∀ W, Calls Tryz.prog 93 #[.int .u64 (a * 8 + b)] W fun e w' => e = .returned (.string ⟨ks.toArray⟩) ∧ Below W.heap.size W w' := fun W => by
    rw [hks]; exact rnum_any _ W (by omega) (by omega)
  have hkl : ks.length ≤ 10 := by rw [hks]; exact M.vnum_len10 _ (by omega)
  have Hr := Lib.hid hr2
  have Hcall := Lib.hid hcall
  clear hr2 hen hks hcall
  rcases hcase with ⟨rfl, rfl⟩ | ⟨rfl, rfl⟩ | ⟨rfl, rfl, hcl⟩ | ⟨rfl, rfl, hll⟩
  · have hk0 := Hcall.out
    simp only [Int.add_zero] at hk0
    clear Hcall
    have Hcall := Lib.hid hk0
    clear hk0
    obtain ⟨xs, hxs⟩ : ∃ xs, xs = M.vnum c.toNat := ⟨_, rfl⟩
    have hc2 : ∀ W, Calls Tryz.prog 93 #[.int .u64 c] W fun e w' => e = .returned (.string ⟨xs.toArray⟩) ∧ Below W.heap.size W w' := fun W => by
      rw [hxs]; exact rnum_any _ W (by omega) (by omega)
    have hxl : xs.length ≤ 10 := by rw [hxs]; exact M.vnum_len10 _ (by omega)
    have hcat := run_cat ks xs (by omega)
    have Hc2 := Lib.hid hc2
    have Hxs := Lib.hid hxs
    clear hc2 hxs hkl hxl
    go_enter Tryz.func82, Tryz.ntmps82
    go_wp2_with fail
    refine (Hcall.out _).mono ?_
    rintro e w1 ⟨rfl, hb1'⟩
    have hx1 := (hb1'.block w.heap.size (by simp)).trans (blk_new w _)
    obtain ⟨q0, q1, q2, q3⟩ := box4 hx1
    have Hb1 := Lib.hid (((Below.refl _ w).alloc (Nat.le_refl _) _).trans (hb1'.mono (by simp)))
    clear hb1' hx1
    go_wp2_with fail
    refine (Hc2.out _).mono ?_
    rintro e w2 ⟨rfl, hb2⟩
    have Hb2 := Lib.hid (Hb1.out.trans (hb2.mono Hb1.out.size))
    clear hb2
    go_wp2
    go_ret
    refine ⟨?_, Hb2.out⟩
    rw [Hr.out, M.body, Hxs.out]
    rfl
  · obtain ⟨xs, hxs⟩ : ∃ xs, xs = M.le 8 c.toNat := ⟨_, rfl⟩
    have hc2 : ∀ W, Calls Tryz.prog 94 #[.int .u64 c, .int .i64 8] W fun e w' => e = .returned (.string ⟨xs.toArray⟩) ∧ Below W.heap.size W w' := fun W => by
      rw [hxs]; exact low_any c 8 W (by omega) (by omega) (by omega)
    have hxl : xs.length ≤ 10 := by rw [hxs]; rw [M.le_len]; omega
    have hcat := run_cat ks xs (by omega)
    have Hc2 := Lib.hid hc2
    have Hxs := Lib.hid hxs
    clear hc2 hxs hkl hxl
    go_enter Tryz.func82, Tryz.ntmps82
    go_wp2_with fail
    refine (Hcall.out _).mono ?_
    rintro e w1 ⟨rfl, hb1'⟩
    have hx1 := (hb1'.block w.heap.size (by simp)).trans (blk_new w _)
    obtain ⟨q0, q1, q2, q3⟩ := box4 hx1
    have Hb1 := Lib.hid (((Below.refl _ w).alloc (Nat.le_refl _) _).trans (hb1'.mono (by simp)))
    clear hb1' hx1
    go_wp2_with fail
    refine (Hc2.out _).mono ?_
    rintro e w2 ⟨rfl, hb2⟩
    have Hb2 := Lib.hid (Hb1.out.trans (hb2.mono Hb1.out.size))
    clear hb2
    go_wp2
    go_ret
    refine ⟨?_, Hb2.out⟩
    rw [Hr.out, M.body, Hxs.out]
    rfl
  · obtain ⟨xs, hxs⟩ : ∃ xs, xs = M.le 4 c.toNat := ⟨_, rfl⟩
    have hc2 : ∀ W, Calls Tryz.prog 94 #[.int .u64 c, .int .i64 4] W fun e w' => e = .returned (.string ⟨xs.toArray⟩) ∧ Below W.heap.size W w' := fun W => by
      rw [hxs]; exact low_any c 4 W (by omega) (by omega) (by omega)
    have hxl : xs.length ≤ 10 := by rw [hxs]; rw [M.le_len]; omega
    have hcat := run_cat ks xs (by omega)
    have Hc2 := Lib.hid hc2
    have Hxs := Lib.hid hxs
    clear hc2 hxs hkl hxl
    go_enter Tryz.func82, Tryz.ntmps82
    go_wp2_with fail
    refine (Hcall.out _).mono ?_
    rintro e w1 ⟨rfl, hb1'⟩
    have hx1 := (hb1'.block w.heap.size (by simp)).trans (blk_new w _)
    obtain ⟨q0, q1, q2, q3⟩ := box4 hx1
    have Hb1 := Lib.hid (((Below.refl _ w).alloc (Nat.le_refl _) _).trans (hb1'.mono (by simp)))
    clear hb1' hx1
    go_wp2_with fail
    refine (Hc2.out _).mono ?_
    rintro e w2 ⟨rfl, hb2⟩
    have Hb2 := Lib.hid (Hb1.out.trans (hb2.mono Hb1.out.size))
    clear hb2
    go_wp2
    go_ret
    refine ⟨?_, Hb2.out⟩
    rw [Hr.out, M.body, Hxs.out]
    rfl
  · obtain ⟨xs, hxs⟩ : ∃ xs, xs = M.vnum l.length := ⟨_, rfl⟩
    have hc2 : ∀ W, Calls Tryz.prog 93 #[.int .u64 (IntKind.u64.wrap (l.length : Int))] W fun e w' => e = .returned (.string ⟨xs.toArray⟩) ∧ Below W.heap.size W w' := fun W => by
      rw [hxs, show IntKind.u64.wrap (l.length : Int) = (l.length : Int) from by rw [IntKind.wrap_u64]; omega]; exact rnum_any (l.length : Int) W (by omega) (by omega)
    have hxl : xs.length ≤ 10 := by rw [hxs]; exact M.vnum_len10 _ (by omega)
    have hcat := run_cat ks xs (by omega)
    have hcat2 := run_cat (ks ++ xs) l (by rw [List.length_append]; omega)
    have Hc2 := Lib.hid hc2
    have Hxs := Lib.hid hxs
    clear hc2 hxs hkl hxl
    go_enter Tryz.func82, Tryz.ntmps82
    go_wp2_with fail
    refine (Hcall.out _).mono ?_
    rintro e w1 ⟨rfl, hb1'⟩
    have hx1 := (hb1'.block w.heap.size (by simp)).trans (blk_new w _)
    obtain ⟨q0, q1, q2, q3⟩ := box4 hx1
    have hs1 : w.heap.size < w1.heap.size := (Array.getElem?_eq_some_iff.1 hx1).1
    have Hb1 := Lib.hid (((Below.refl _ w).alloc (Nat.le_refl _) _).trans (hb1'.mono (by simp)))
    clear hb1' hx1 q0 q2
    go_wp2
    go_region_held3 (fun w' => w'.cell? ⟨w.heap.size, 3, none⟩ = some (.string ⟨l.toArray⟩) ∧ Below w1.heap.size w1 w')
      (first | (constructor; (first | exact q3 | exact (hb2.cell (p := ⟨w.heap.size, 3, none⟩) hs1).trans q3); (first | exact (Below.refl w1.heap.size w1).drew | exact (Below.refl w1.heap.size w1).drew.trans hb2)))
      (first | (go_at_call 93; refine (Hc2.out _).mono ?_; rintro e w2 ⟨rfl, hb2⟩))
    have hbel : Below w.heap.size w w2 := Hb1.out.trans (((Below.refl w1.heap.size w1).drew.trans hb2).mono Hb1.out.size)
    have Hbel := Lib.hid hbel
    clear hbel hb2
    go_wp2
    go_ret
    refine ⟨?_, Hbel.out⟩
    rw [Hr.out, M.body, Hxs.out]
    rfl

end Go.Proofs.YtnnnnlcpmocnfaaGreatDoor

/- THE WALK OVER THE DOCUMENT's OWN Write. -/
namespace Go.Proofs.YtnnnnlcpmocnfaaGreatDoor
open Go.RowKit
set_option linter.unusedVariables false
set_option linter.unusedSimpArgs false

theorem rwrite_long (w : World) (ad : Option Addr) (cap n : Nat) (hn : n ≤ 9223372036854775807) (hlen : 4096 < n) :
    Calls Tryz.prog 56 #[.slice ad n cap] w fun e w' => e = .returned (.tuple #[.string ⟨#[]⟩, .int .i64 3]) ∧ w = w' := by
  go_enter Tryz.func56, Tryz.ntmps56
  go_wp2
  go_ret2
  exact ⟨rfl, rfl⟩

theorem enc_take_le (fs : List M.Fd) (k : Nat) : (M.enc (fs.take k)).length ≤ (M.enc fs).length := by
  have h1 : (M.enc (fs.take k)).length + (M.enc (fs.drop k)).length = (M.enc fs).length := by
    rw [← List.length_append, ← M.enc_append, List.take_append_drop]
  omega

set_option maxHeartbeats 4000000 in
theorem rwrite_short (w : World) (ad : Option Addr) (cap n : Nat) (fs : List M.Fd) (hfn : n = fs.length) (hfs : Flds w w.heap.size ad fs) (hlen : n ≤ 4096) :
    Calls Tryz.prog 56 #[.slice ad n cap] w fun e w' => e = .returned (.tuple #[.string ⟨(M.wr fs).2.toArray⟩, .int .i64 (M.wr fs).1]) ∧ Below w.heap.size w w' := by
  obtain ⟨R, hR⟩ : ∃ R, R = M.wr fs := ⟨_, rfl⟩
  rw [← hR]
  have HR := Lib.hid hR
  have Hfn := Lib.hid hfn
  have Hfs := Lib.hid hfs
  clear hR hfn hfs
  go_enter Tryz.func56, Tryz.ntmps56
  go_wp2
  go_loopw [14] (fun i wr => ∃ (k : Nat), i = .int .i64 (k : Int) ∧ k ≤ n ∧ (fs.take k).all M.may = true ∧ Below w.heap.size w wr) (fun i _ => n - (intOf i).toNat)
  case atStart => exact ⟨0, rfl, by omega, rfl, Below.refl _ _⟩
  case round =>
    obtain ⟨k, rfl, hk, hall, hbel⟩ := hrel
    have Hall := Lib.hid hall
    have Hbel := Lib.hid hbel
    clear hall hbel
    by_cases hlt : k < n
    · have hne : fs ≠ [] := by rintro rfl; simp at Hfn; have := Hfn.out; omega
      obtain ⟨g, off, rfl, hg, hi⟩ := (Hfs.out.keep Hbel.out).2 hne
      obtain ⟨f, hf⟩ : ∃ f, fs[k]? = some f := ⟨fs[k]'(by have := Hfn.out; omega), by simp⟩
      obtain ⟨a, b, c, l, hfit, q⟩ := hi k f hf
      obtain ⟨q0, q1, q2, q3⟩ := q
      obtain ⟨hfe, hb0, hb1, hc0, hc1, ha0, ha1, hll⟩ := hfit
      have hmay : ∀ W, Calls Tryz.prog 81 #[.agg (fcells a b c l)] W fun e w' => e = .returned (.bool (M.may f)) ∧ W.alloc (.cells (fcells a b c l) 73) = w' := fun W => by rw [hfe]; exact rmay_any a b c l W hb0 hb1 hc0 (by omega)
      have Hf := Lib.hid hf
      clear hf hfe hi hne
      cases hmb : M.may f with
      | false =>
        rw [hmb] at hmay
        have hret : R = (2, []) := by
          have hall : fs.all M.may = false := by
            cases h : fs.all M.may with
            | false => rfl
            | true => have := (List.all_eq_true.1 h) f (List.mem_of_getElem? Hf.out); rw [hmb] at this; cases this
          rw [HR.out, M.wr, if_neg (by have := Hfn.out; omega), if_pos hall]
        have Hret := Lib.hid hret
        have Hmay := Lib.hid hmay
        clear hret hmay hmb
        go_wp2_with fail
        refine (Hmay.out _).mono ?_
        rintro e w' ⟨rfl, rfl⟩
        go_wp2
        go_ret2
        exact ⟨by rw [Hret.out]; rfl, Hbel.out.trans (((Below.refl _ _).alloc Hbel.out.size _).alloc (by have := Hbel.out.size; simp; omega) _)⟩
      | true =>
        rw [hmb] at hmay
        have hall : (fs.take (k + 1)).all M.may = true := by
          rw [List.take_add_one, Hf.out, List.all_append, Hall.out]
          simp [hmb]
        have Hmay := Lib.hid hmay
        have Hall' := Lib.hid hall
        clear hmay hall hmb
        go_wp2_with fail
        refine (Hmay.out _).mono ?_
        rintro e w' ⟨rfl, rfl⟩
        go_wp2
        go_roundw
        case rel =>
          refine ⟨k + 1, by go_num, by omega, Hall'.out, Hbel.out.trans ?_⟩
          exact ((Below.refl _ _).alloc Hbel.out.size _).alloc (by have := Hbel.out.size; simp; omega) _
        case measure => simp [intOf]; omega
    · have hal := Hall.out
      rw [List.take_of_length_le (by have := Hfn.out; omega)] at hal
      have Hal := Lib.hid hal
      have hkn : k = n := by omega
      clear hal Hall
      subst hkn
      go_wp2
      go_loopw [6, 24] (fun v i wq => ∃ (j : Nat), i = .int .i64 (j : Int) ∧ j ≤ k ∧ Bytes 5 wq w.heap.size v (M.enc (fs.take j)) ∧ (M.enc (fs.take j)).length ≤ 65536 ∧ Below w.heap.size w wq) (fun _ i _ => k - (intOf i).toNat)
      case atStart => exact ⟨0, rfl, by omega, Bytes.nil _ _, by simp [M.enc], Hbel.out⟩
      case round =>
        obtain ⟨j, rfl, hj, hown, hel, hbelj⟩ := hrel
        have Hown := Lib.hid hown
        have Hbj := Lib.hid hbelj
        have Hel := Lib.hid hel
        clear hown hbelj hel
        by_cases hlt : j < k
        · have hne : fs ≠ [] := by rintro rfl; have := Hfn.out; simp at this; omega
          obtain ⟨g, off, rfl, hg, hi⟩ := (Hfs.out.keep Hbj.out).2 hne
          obtain ⟨f, hf⟩ : ∃ f, fs[j]? = some f := ⟨fs[j]'(by have := Hfn.out; omega), by simp⟩
          obtain ⟨a, b, c, l, hfit, q⟩ := hi j f hf
          obtain ⟨q0, q1, q2, q3⟩ := q
          have hmb : M.may f = true := List.all_eq_true.1 Hal.out f (List.mem_of_getElem? hf)
          have he1 := enc1_le hfit hmb
          obtain ⟨hfe, hb0, hb1, hc0, hc1, ha0, ha1, hll⟩ := hfit
          obtain ⟨en, hen⟩ : ∃ en, en = M.enc1 f := ⟨_, rfl⟩
          rw [← hen] at he1
          have hone : ∀ W, Calls Tryz.prog 82 #[.agg (fcells a b c l)] W fun e w' => e = .returned (.string ⟨en.toArray⟩) ∧ Below W.heap.size W w' := fun W => by
            rw [hen, hfe]; exact one_any a b c l W hb0 hb1 hc0 hc1 (by rw [← hfe]; exact hmb)
          obtain ⟨X, hX⟩ : ∃ X, X = M.enc (fs.take j) := ⟨_, rfl⟩
          have hnext : M.enc (fs.take (j + 1)) = X ++ en := by
            rw [List.take_add_one, hf, hX, hen]
            simp [M.enc]
          rw [← hX] at Hown Hel
          have Hnext := Lib.hid hnext
          have Hone := Lib.hid hone
          have Hle := Lib.hid (show X.length + en.length ≤ 140737488355000 by have := Hel.out; omega)
          have hsz := Hbj.out.size
          clear hmb hnext hone hf hfe hi hne hX hen
          go_wp2_with fail
          refine (Hone.out _).mono ?_
          rintro e w2 ⟨rfl, hb2⟩
          have hown2 : Bytes 5 w2 w.heap.size _ X := (Hown.out.alloc (.cells (fcells a b c l) 73)).kept (row := none) ⟨hb2.os, hb2.tape, hb2.output, hb2.size, fun q hq _ => hb2.block q hq⟩ (by cases Value.ownBlock _ <;> simp)
          have Hb2 := Lib.hid ((Hbj.out.alloc Hbj.out.size _).trans (hb2.mono (by simp; omega)))
          have Hown2 := Lib.hid hown2
          clear hb2 hown2 q0 q1 q2 q3
          go_wp2_with (at_builtin; refine wp_app_str Tryz.info5 Tryz.underlying110 Tryz.underlying9 rfl _ _ rfl w.heap.size _ _ rfl Hown2.out en rfl Hle.out Hb2.out.size ?_)
          intro v3 w3 hb3 hg3
          have Hb3 := Lib.hid (Hb2.out.trans (hg3.below Hb2.out.size (fun q hq => (Hown2.out.lt q hq).1)))
          obtain ⟨ad3, cap3, rfl⟩ := hb3.form
          have Hown3 := Lib.hid hb3
          obtain ⟨Y, hY⟩ : ∃ Y, Y = X ++ en := ⟨_, rfl⟩
          have hYl : Y.length ≤ 140737488355000 := by rw [hY, List.length_append]; exact Hle.out
          rw [← hY] at Hown3 Hnext ⊢
          clear hb3 hg3 hY
          by_cases hbig : 65536 < Y.length
          · have hret : R = (4, []) := by
              have h1 := enc_take_le fs (j + 1)
              rw [Hnext.out] at h1
              rw [HR.out, M.wr, if_neg (by have := Hfn.out; omega), if_neg (by simp [Hal.out]), if_pos (by omega)]
            have Hret := Lib.hid hret
            clear hret
            go_wp2
            go_ret2
            exact ⟨by rw [Hret.out]; rfl, Hb3.out⟩
          · have hsm : Y.length ≤ 65536 := by omega
            clear hbig
            go_wp2
            go_roundw
            case rel => exact ⟨j + 1, by go_num, by omega, by rw [Hnext.out]; exact Hown3.out, by rw [Hnext.out]; exact hsm, Hb3.out⟩
            case measure => simp [intOf]; omega
        · have ho := Hown.out
          have hel := Hel.out
          have htake : fs.take j = fs := List.take_of_length_le (by have := Hfn.out; omega)
          rw [htake] at ho hel
          have hret : R = (0, M.enc fs) := by
            rw [HR.out, M.wr, if_neg (by have := Hfn.out; omega), if_neg (by simp [Hal.out]), if_neg (by omega)]
          have Hret := Lib.hid hret
          have hconv := ho.conv Tryz.underlying110 Tryz.underlying5 Tryz.underlying9
          clear htake ho hret hel
          go_wp2
          go_ret2
          exact ⟨by rw [Hret.out]; rfl, Hbj.out⟩

theorem rwrite_any (w : World) (ad : Option Addr) (cap n : Nat) (fs : List M.Fd) (hfn : n = fs.length) (hfs : Flds w w.heap.size ad fs) :
    Calls Tryz.prog 56 #[.slice ad n cap] w fun e w' => e = .returned (.tuple #[.string ⟨(M.wr fs).2.toArray⟩, .int .i64 (M.wr fs).1]) ∧ Below w.heap.size w w' := by
  by_cases h : n ≤ 4096
  · exact rwrite_short w ad cap n fs hfn hfs h
  · have hr : M.wr fs = (3, []) := by rw [M.wr, if_pos (by omega)]
    rw [hr]
    exact (rwrite_long w ad cap n (by rw [hfn]; exact hfs.1) (by omega)).mono fun e w' ⟨he, hw⟩ => ⟨he, by rw [← hw]; exact Below.refl _ _⟩
end Go.Proofs.YtnnnnlcpmocnfaaGreatDoor

/- THE WALKS OVER All and Last, the program's and the document's. -/
namespace Go.Proofs.YtnnnnlcpmocnfaaGreatDoor
open Go.RowKit
set_option linter.unusedVariables false
set_option linter.unusedSimpArgs false

/-- is it of that number and wire -/
def pick (num : Int) (wire : Nat) (f : M.Fd) : Bool := decide (f.num = num) && decide (f.wire = wire)
theorem pick_fit {f : M.Fd} {a b c : Int} {l : List UInt8} (h : Fit f a b c l) (num wb : Int) (hw : 0 ≤ wb) : pick num wb.toNat f = (decide (a = num) && decide (b = wb)) := by
  rw [h.e]
  have := h.b0
  unfold pick
  congr 1
  simp only [decide_eq_decide]
  omega
def allOf (num : Int) (wire : Nat) (fs : List M.Fd) : List M.Fd := fs.filter (pick num wire)
def lastOf (num : Int) (wire : Nat) (fs : List M.Fd) : Option M.Fd := (allOf num wire fs).getLast?
theorem allOf_snoc (num : Int) (wire : Nat) (fs : List M.Fd) (f : M.Fd) : allOf num wire (fs ++ [f]) = allOf num wire fs ++ (if pick num wire f then [f] else []) := by
  unfold allOf
  rw [List.filter_append]
  congr 1
  cases h : pick num wire f <;> simp [h]
theorem allOf_len (num : Int) (wire : Nat) (fs : List M.Fd) : (allOf num wire fs).length ≤ fs.length := List.length_filter_le _ _
theorem take_snoc_get {fs : List M.Fd} {k : Nat} {f : M.Fd} (h : fs[k]? = some f) : fs.take (k + 1) = fs.take k ++ [f] := by rw [List.take_add_one, h]; rfl

theorem wp_app_fd {w : World} {ops : Array Oper} {rest : List Oper} {o : Oper} {a : Act} {Q : Exit → Act → World → Prop} (hgd : o.guard = none) (s x : Operand)
    (ho : o.op = .call { callee := .builtin .append, args := #[s, x], argTypes := #[81, 81] }) (base : Nat) (v : Value) (fs : List M.Fd) (hs : a.eval s = v) (hown : FRow w base v fs)
    (f : M.Fd) (cs : Array Value) (hcs : cs.toList = fc f) (g0 : Nat) (hx : a.eval x = .slice (some ⟨g0, 0, none⟩) 1 1) (hg0 : g0 = w.heap.size) (hlen : fs.length ≤ 3518437208782) (hbase : base ≤ w.heap.size)
    (h : ∀ v' w', FRow w' base v' (fs ++ [f]) → Grew w v w' v' → wpList Tryz.prog ops Q rest (a.put o.dst v') w') : wpList Tryz.prog ops Q (o :: rest) a (w.alloc (.cells cs 73)) := by
  subst hg0
  refine wpList_plain hgd fun K hK => ?_
  obtain ⟨i0, hi, hz0, hz1, hz2⟩ := info_parts Tryz.info73
  obtain ⟨v', w', hr, h2, h3, _, h5⟩ := run_append_own_at (P := Tryz.prog) (w.alloc (.cells cs 73)) base 81 o.type 73 i0 _ 4 40 Tryz.underlying81 hi hz0 hz1 hz2 rfl (by decide) v fs.length (fs.flatMap fc) (World.ownsRow.alloc hown _)
    ⟨w.heap.size, 0, none⟩ 1 1 (fc f) rfl
    (by
      intro j u hu
      have e : (⟨w.heap.size, 0, none⟩ : Addr).add j = ⟨w.heap.size, j, none⟩ := by unfold Addr.add; split <;> simp_all
      rw [e, cell_of_row _ w.heap.size j cs 73 (0, 0) (heap_alloc_new w _), ← Array.getElem?_toList, hcs]
      exact hu)
    (by intro u hu; exact fc_one [f] u (by simpa using hu)) (by unfold maxLen; omega) (by omega) (by simp; omega)
  unfold Oper.wp execOp
  simp only [ho, resolve, invoke, builtin, Sem.run_bind, Sem.run_pure, Result.andThen_ok, List.map_toArray, List.map_cons, List.map_nil, hs, hx, hr]
  refine hK _ _ (h v' w' ?_ (((Grew.refl w v).alloc _).step h3 h5))
  unfold FRow
  rw [List.length_append, List.flatMap_append]
  simpa using h2

set_option maxHeartbeats 4000000 in
theorem all_any (w : World) (ad : Option Addr) (n cap : Nat) (num wb : Int) (fs : List M.Fd) (hn : n = fs.length) (hfl : Flds w w.heap.size ad fs) (hsz : n ≤ 3518437208780) (hw0 : 0 ≤ wb) (hw1 : wb ≤ 255) :
    Calls Tryz.prog 84 #[.slice ad n cap, .int .i64 num, .int .u8 wb] w fun e w' => ∃ v, e = .returned v ∧ FRow w' w.heap.size v (allOf num wb.toNat fs) ∧ Below w.heap.size w w' := by
  have Hn := Lib.hid hn
  have Hfl := Lib.hid hfl
  clear hn hfl
  go_enter Tryz.func84, Tryz.ntmps84
  go_wp2
  go_loopw [7, 12] (fun v i wr => ∃ (j : Nat), i = .int .i64 (j : Int) ∧ j ≤ n ∧ FRow wr w.heap.size v (allOf num wb.toNat (fs.take j)) ∧ Below w.heap.size w wr) (fun _ i _ => n - (intOf i).toNat)
  case atStart => exact ⟨0, rfl, by omega, FRow.nil _ _, Below.refl _ _⟩
  case round =>
    obtain ⟨j, rfl, hj, hrow, hbel⟩ := hrel
    have Hrow := Lib.hid hrow
    have Hbel := Lib.hid hbel
    clear hrow hbel
    by_cases hlt : j < n
    · have hne : fs ≠ [] := by rintro rfl; have := Hn.out; simp at this; omega
      obtain ⟨g, off, rfl, hg, hi⟩ := (Hfl.out.keep Hbel.out).2 hne
      obtain ⟨f, hf⟩ : ∃ f, fs[j]? = some f := ⟨fs[j]'(by have := Hn.out; omega), by simp⟩
      obtain ⟨a, b, c, l, hfit, q⟩ := hi j f hf
      obtain ⟨q0, q1, q2, q3⟩ := q
      have hp := pick_fit hfit num wb hw0
      have hnext := allOf_snoc num wb.toNat (fs.take j) f
      rw [← take_snoc_get hf, hp] at hnext
      have hlen : (allOf num wb.toNat (fs.take j)).length ≤ 3518437208782 := by
        have h1 := allOf_len num wb.toNat (fs.take j)
        have h2 := List.length_take_le j fs
        omega
      have Hfc := Lib.hid (fc_fit hfit)
      have Hlen := Lib.hid hlen
      have Hs := Lib.hid (show w.heap.size ≤ (wr.alloc (.cells (fcells a b c l) 73)).heap.size by have := Hbel.out.size; simp; omega)
      by_cases ha : a = num
      · by_cases hb : b = wb
        · rw [if_pos (by simp [ha, hb])] at hnext
          have hab : (a == num) = true := by simp [ha]
          have hbb : (b == wb) = true := by simp [hb]
          have Hnext := Lib.hid hnext
          clear hnext hp hlen hfit hf hi hne hg ha hb
          go_wp2_with (at_builtin; refine wp_app_fd rfl _ _ rfl w.heap.size _ _ rfl (Hrow.out.alloc _) f (fcells a b c l) Hfc.out _ rfl (by simp) Hlen.out Hs.out ?_)
          intro v2 w2 hrow2 hgr2
          have Hrow2 := Lib.hid hrow2
          have Hb2 := Lib.hid ((Hbel.out.alloc Hbel.out.size _).trans (hgr2.below Hs.out (fun k hk => (Hrow.out.lt k hk).1)))
          clear hrow2 hgr2
          go_wp2
          go_roundw
          case rel => exact ⟨j + 1, by go_num, by omega, by rw [Hnext.out]; exact Hrow2.out, Hb2.out⟩
          case measure => simp [intOf]; omega
        · rw [if_neg (by simp [hb])] at hnext
          have hab : (a == num) = true := by simp [ha]
          have hbb : (b == wb) = false := by simp [hb]
          rw [List.append_nil] at hnext
          have Hnext := Lib.hid hnext
          clear hnext hp hlen hfit hf hi hne hg ha hb
          go_wp2
          go_roundw
          case rel => exact ⟨j + 1, by go_num, by omega, by rw [Hnext.out]; exact Hrow.out.alloc _, Hbel.out.alloc Hbel.out.size _⟩
          case measure => simp [intOf]; omega
      · rw [if_neg (by simp [ha])] at hnext
        have hab : (a == num) = false := by simp [ha]
        rw [List.append_nil] at hnext
        have Hnext := Lib.hid hnext
        clear hnext hp hlen hfit hf hi hne hg ha
        go_wp2
        go_roundw
        case rel => exact ⟨j + 1, by go_num, by omega, by rw [Hnext.out]; exact Hrow.out.alloc _, Hbel.out.alloc Hbel.out.size _⟩
        case measure => simp [intOf]; omega
    · have hr := Hrow.out
      rw [List.take_of_length_le (by have := Hn.out; omega)] at hr
      have Hr := Lib.hid hr
      clear hr
      go_wp2
      go_ret
      exact ⟨_, rfl, Hr.out, Hbel.out⟩

set_option maxHeartbeats 4000000 in
theorem rall_any (w : World) (ad : Option Addr) (n cap : Nat) (num wb : Int) (fs : List M.Fd) (hn : n = fs.length) (hfl : Flds w w.heap.size ad fs) (hsz : n ≤ 3518437208780) (hw0 : 0 ≤ wb) (hw1 : wb ≤ 255) :
    Calls Tryz.prog 65 #[.slice ad n cap, .int .i64 num, .int .u8 wb] w fun e w' => ∃ v, e = .returned v ∧ FRow w' w.heap.size v (allOf num wb.toNat fs) ∧ Below w.heap.size w w' := by
  have Hn := Lib.hid hn
  have Hfl := Lib.hid hfl
  clear hn hfl
  go_enter Tryz.func65, Tryz.ntmps65
  go_wp2
  go_loopw [7, 12] (fun v i wr => ∃ (j : Nat), i = .int .i64 (j : Int) ∧ j ≤ n ∧ FRow wr w.heap.size v (allOf num wb.toNat (fs.take j)) ∧ Below w.heap.size w wr) (fun _ i _ => n - (intOf i).toNat)
  case atStart => exact ⟨0, rfl, by omega, FRow.nil _ _, Below.refl _ _⟩
  case round =>
    obtain ⟨j, rfl, hj, hrow, hbel⟩ := hrel
    have Hrow := Lib.hid hrow
    have Hbel := Lib.hid hbel
    clear hrow hbel
    by_cases hlt : j < n
    · have hne : fs ≠ [] := by rintro rfl; have := Hn.out; simp at this; omega
      obtain ⟨g, off, rfl, hg, hi⟩ := (Hfl.out.keep Hbel.out).2 hne
      obtain ⟨f, hf⟩ : ∃ f, fs[j]? = some f := ⟨fs[j]'(by have := Hn.out; omega), by simp⟩
      obtain ⟨a, b, c, l, hfit, q⟩ := hi j f hf
      obtain ⟨q0, q1, q2, q3⟩ := q
      have hp := pick_fit hfit num wb hw0
      have hnext := allOf_snoc num wb.toNat (fs.take j) f
      rw [← take_snoc_get hf, hp] at hnext
      have hlen : (allOf num wb.toNat (fs.take j)).length ≤ 3518437208782 := by
        have h1 := allOf_len num wb.toNat (fs.take j)
        have h2 := List.length_take_le j fs
        omega
      have Hfc := Lib.hid (fc_fit hfit)
      have Hlen := Lib.hid hlen
      have Hs := Lib.hid (show w.heap.size ≤ (wr.alloc (.cells (fcells a b c l) 73)).heap.size by have := Hbel.out.size; simp; omega)
      by_cases ha : a = num
      · by_cases hb : b = wb
        · rw [if_pos (by simp [ha, hb])] at hnext
          have hab : (a == num) = true := by simp [ha]
          have hbb : (b == wb) = true := by simp [hb]
          have Hnext := Lib.hid hnext
          clear hnext hp hlen hfit hf hi hne hg ha hb
          go_wp2_with (at_builtin; refine wp_app_fd rfl _ _ rfl w.heap.size _ _ rfl (Hrow.out.alloc _) f (fcells a b c l) Hfc.out _ rfl (by simp) Hlen.out Hs.out ?_)
          intro v2 w2 hrow2 hgr2
          have Hrow2 := Lib.hid hrow2
          have Hb2 := Lib.hid ((Hbel.out.alloc Hbel.out.size _).trans (hgr2.below Hs.out (fun k hk => (Hrow.out.lt k hk).1)))
          clear hrow2 hgr2
          go_wp2
          go_roundw
          case rel => exact ⟨j + 1, by go_num, by omega, by rw [Hnext.out]; exact Hrow2.out, Hb2.out⟩
          case measure => simp [intOf]; omega
        · rw [if_neg (by simp [hb])] at hnext
          have hab : (a == num) = true := by simp [ha]
          have hbb : (b == wb) = false := by simp [hb]
          rw [List.append_nil] at hnext
          have Hnext := Lib.hid hnext
          clear hnext hp hlen hfit hf hi hne hg ha hb
          go_wp2
          go_roundw
          case rel => exact ⟨j + 1, by go_num, by omega, by rw [Hnext.out]; exact Hrow.out.alloc _, Hbel.out.alloc Hbel.out.size _⟩
          case measure => simp [intOf]; omega
      · rw [if_neg (by simp [ha])] at hnext
        have hab : (a == num) = false := by simp [ha]
        rw [List.append_nil] at hnext
        have Hnext := Lib.hid hnext
        clear hnext hp hlen hfit hf hi hne hg ha
        go_wp2
        go_roundw
        case rel => exact ⟨j + 1, by go_num, by omega, by rw [Hnext.out]; exact Hrow.out.alloc _, Hbel.out.alloc Hbel.out.size _⟩
        case measure => simp [intOf]; omega
    · have hr := Hrow.out
      rw [List.take_of_length_le (by have := Hn.out; omega)] at hr
      have Hr := Lib.hid hr
      clear hr
      go_wp2
      go_ret
      exact ⟨_, rfl, Hr.out, Hbel.out⟩

/-- what Last answers -/
def lastVal : Option M.Fd → Value
  | some f => .tuple #[.agg (fc f).toArray, .bool true]
  | none => .tuple #[.agg #[.int .i64 0, .int .u8 0, .int .u64 0, .string ⟨#[]⟩], .bool false]
theorem lastOf_snoc (num : Int) (wire : Nat) (fs : List M.Fd) (f : M.Fd) : lastOf num wire (fs ++ [f]) = if pick num wire f then some f else lastOf num wire fs := by
  unfold lastOf
  rw [allOf_snoc]
  cases pick num wire f <;> simp

set_option maxHeartbeats 4000000 in
theorem last_any (w : World) (ad : Option Addr) (n cap : Nat) (num wb : Int) (fs : List M.Fd) (hn : n = fs.length) (hfl : Flds w w.heap.size ad fs) (hw0 : 0 ≤ wb) (hw1 : wb ≤ 255) :
    Calls Tryz.prog 68 #[.slice ad n cap, .int .i64 num, .int .u8 wb] w fun e w' => e = .returned (lastVal (lastOf num wb.toNat fs)) ∧ Below w.heap.size w w' := by
  have hn63 : n ≤ 9223372036854775807 := by rw [hn]; exact hfl.1
  obtain ⟨R, hR⟩ : ∃ R, R = lastOf num wb.toNat fs := ⟨_, rfl⟩
  rw [← hR]
  have HR := Lib.hid hR
  have Hn := Lib.hid hn
  have Hfl := Lib.hid ((hfl.keep ((Below.refl _ w).alloc (Nat.le_refl _) (.cells #[.int .i64 0, .int .u8 0, .int .u64 0, .string ⟨#[]⟩] 73))))
  clear hn hfl hR
  go_enter Tryz.func68, Tryz.ntmps68
  go_wp2
  go_loop [8] (fun i => ∃ (x : Int), i = .int .i64 x ∧ -1 ≤ x ∧ x < n ∧ R = lastOf num wb.toNat (fs.take (x + 1).toNat)) (fun i => (intOf i + 1).toNat)
  case atStart => exact ⟨(n : Int) - 1, rfl, by omega, by omega, by rw [HR.out, show ((n : Int) - 1 + 1).toNat = n by omega, List.take_of_length_le (by have := Hn.out; omega)]⟩
  case round =>
    obtain ⟨x, rfl, hx1, hx2, hlast⟩ := hrel
    by_cases hx0 : 0 ≤ x
    · obtain ⟨j, rfl⟩ := Int.eq_ofNat_of_zero_le hx0
      have hjn : j < n := by omega
      have hne : fs ≠ [] := by rintro rfl; have := Hn.out; simp at this; omega
      obtain ⟨g, off, rfl, hg, hi⟩ := Hfl.out.2 hne
      obtain ⟨f, hf⟩ : ∃ f, fs[j]? = some f := ⟨fs[j]'(by have := Hn.out; omega), by simp⟩
      obtain ⟨a, b, c, l, hfit, q⟩ := hi j f hf
      obtain ⟨q0, q1, q2, q3⟩ := q
      have hp := pick_fit hfit num wb hw0
      rw [show ((j : Int) + 1).toNat = j + 1 by omega, take_snoc_get hf, lastOf_snoc, hp] at hlast
      have Hfc := Lib.hid (fc_fit hfit)
      have hj1 : ((j : Int) - 1 + 1).toNat = j := by omega
      have Hj1 := Lib.hid hj1
      by_cases ha : a = num
      · by_cases hb : b = wb
        · rw [if_pos (by simp [ha, hb])] at hlast
          have hab : (a == num) = true := by simp [ha]
          have hbb : (b == wb) = true := by simp [hb]
          have Hlast := Lib.hid hlast
          clear hlast hp hfit hf hi hne hg ha hb hj1
          go_wp2
          refine bodyPost_ret (v := .tuple #[.agg (fcells a b c l), .bool true]) (by simp [results, Tryz.results68, go_sem]) rfl ⟨?_, ?_⟩
          · rw [Hlast.out, lastVal, ← Hfc.out]
          · exact (Below.refl _ w).alloc (Nat.le_refl _) _
        · rw [if_neg (by simp [hb])] at hlast
          have hab : (a == num) = true := by simp [ha]
          have hbb : (b == wb) = false := by simp [hb]
          have Hlast := Lib.hid hlast
          clear hlast hp hfit hf hi hne hg ha hb hj1
          go_wp2
          go_round
          case rel => exact ⟨(j : Int) - 1, rfl, by omega, by omega, by rw [Hj1.out]; exact Hlast.out⟩
          case measure => first | (simp [intOf]; done) | (simp [intOf]; omega)
      · rw [if_neg (by simp [ha])] at hlast
        have hab : (a == num) = false := by simp [ha]
        have Hlast := Lib.hid hlast
        clear hlast hp hfit hf hi hne hg ha hj1
        go_wp2
        go_round
        case rel => exact ⟨(j : Int) - 1, rfl, by omega, by omega, by rw [Hj1.out]; exact Hlast.out⟩
        case measure => first | (simp [intOf]; done) | (simp [intOf]; omega)
    · have hxm : (x + 1).toNat = 0 := by omega
      rw [hxm] at hlast
      have Hlast := Lib.hid hlast
      have hneg : x < 0 := by omega
      clear hlast hxm hx0
      go_wp2
      refine bodyPost_ret (v := .tuple #[.agg #[.int .i64 0, .int .u8 0, .int .u64 0, .string ⟨#[]⟩], .bool false]) (by simp [results, Tryz.results68, go_sem]) rfl ⟨?_, ?_⟩
      · rw [Hlast.out]; rfl
      · exact (Below.refl _ w).alloc (Nat.le_refl _) _

set_option maxHeartbeats 4000000 in
theorem rlast_any (w : World) (ad : Option Addr) (n cap : Nat) (num wb : Int) (fs : List M.Fd) (hn : n = fs.length) (hfl : Flds w w.heap.size ad fs) (hw0 : 0 ≤ wb) (hw1 : wb ≤ 255) :
    Calls Tryz.prog 69 #[.slice ad n cap, .int .i64 num, .int .u8 wb] w fun e w' => e = .returned (lastVal (lastOf num wb.toNat fs)) ∧ Below w.heap.size w w' := by
  have hn63 : n ≤ 9223372036854775807 := by rw [hn]; exact hfl.1
  obtain ⟨R, hR⟩ : ∃ R, R = lastOf num wb.toNat fs := ⟨_, rfl⟩
  rw [← hR]
  have HR := Lib.hid hR
  have Hn := Lib.hid hn
  have Hfl := Lib.hid ((hfl.keep ((Below.refl _ w).alloc (Nat.le_refl _) (.cells #[.int .i64 0, .int .u8 0, .int .u64 0, .string ⟨#[]⟩] 73))))
  clear hn hfl hR
  go_enter Tryz.func69, Tryz.ntmps69
  go_wp2
  go_loop [8] (fun i => ∃ (x : Int), i = .int .i64 x ∧ -1 ≤ x ∧ x < n ∧ R = lastOf num wb.toNat (fs.take (x + 1).toNat)) (fun i => (intOf i + 1).toNat)
  case atStart => exact ⟨(n : Int) - 1, rfl, by omega, by omega, by rw [HR.out, show ((n : Int) - 1 + 1).toNat = n by omega, List.take_of_length_le (by have := Hn.out; omega)]⟩
  case round =>
    obtain ⟨x, rfl, hx1, hx2, hlast⟩ := hrel
    by_cases hx0 : 0 ≤ x
    · obtain ⟨j, rfl⟩ := Int.eq_ofNat_of_zero_le hx0
      have hjn : j < n := by omega
      have hne : fs ≠ [] := by rintro rfl; have := Hn.out; simp at this; omega
      obtain ⟨g, off, rfl, hg, hi⟩ := Hfl.out.2 hne
      obtain ⟨f, hf⟩ : ∃ f, fs[j]? = some f := ⟨fs[j]'(by have := Hn.out; omega), by simp⟩
      obtain ⟨a, b, c, l, hfit, q⟩ := hi j f hf
      obtain ⟨q0, q1, q2, q3⟩ := q
      have hp := pick_fit hfit num wb hw0
      rw [show ((j : Int) + 1).toNat = j + 1 by omega, take_snoc_get hf, lastOf_snoc, hp] at hlast
      have Hfc := Lib.hid (fc_fit hfit)
      have hj1 : ((j : Int) - 1 + 1).toNat = j := by omega
      have Hj1 := Lib.hid hj1
      by_cases ha : a = num
      · by_cases hb : b = wb
        · rw [if_pos (by simp [ha, hb])] at hlast
          have hab : (a == num) = true := by simp [ha]
          have hbb : (b == wb) = true := by simp [hb]
          have Hlast := Lib.hid hlast
          clear hlast hp hfit hf hi hne hg ha hb hj1
          go_wp2
          refine bodyPost_ret (v := .tuple #[.agg (fcells a b c l), .bool true]) (by simp [results, Tryz.results69, go_sem]) rfl ⟨?_, ?_⟩
          · rw [Hlast.out, lastVal, ← Hfc.out]
          · exact (Below.refl _ w).alloc (Nat.le_refl _) _
        · rw [if_neg (by simp [hb])] at hlast
          have hab : (a == num) = true := by simp [ha]
          have hbb : (b == wb) = false := by simp [hb]
          have Hlast := Lib.hid hlast
          clear hlast hp hfit hf hi hne hg ha hb hj1
          go_wp2
          go_round
          case rel => exact ⟨(j : Int) - 1, rfl, by omega, by omega, by rw [Hj1.out]; exact Hlast.out⟩
          case measure => first | (simp [intOf]; done) | (simp [intOf]; omega)
      · rw [if_neg (by simp [ha])] at hlast
        have hab : (a == num) = false := by simp [ha]
        have Hlast := Lib.hid hlast
        clear hlast hp hfit hf hi hne hg ha hj1
        go_wp2
        go_round
        case rel => exact ⟨(j : Int) - 1, rfl, by omega, by omega, by rw [Hj1.out]; exact Hlast.out⟩
        case measure => first | (simp [intOf]; done) | (simp [intOf]; omega)
    · have hxm : (x + 1).toNat = 0 := by omega
      rw [hxm] at hlast
      have Hlast := Lib.hid hlast
      have hneg : x < 0 := by omega
      clear hlast hxm hx0
      go_wp2
      refine bodyPost_ret (v := .tuple #[.agg #[.int .i64 0, .int .u8 0, .int .u64 0, .string ⟨#[]⟩], .bool false]) (by simp [results, Tryz.results69, go_sem]) rfl ⟨?_, ?_⟩
      · rw [Hlast.out]; rfl
      · exact (Below.refl _ w).alloc (Nat.le_refl _) _
end Go.Proofs.YtnnnnlcpmocnfaaGreatDoor
