/- THE WALK OVER Write. -/
import Derived.Test.YtnnnnlcpmocnfaaApp
namespace Go.Proofs.Ytnnnnlcpmocnfaa
open Go.RowKit
set_option linter.unusedVariables false

/-- a field's numbers fit -/
structure Fit (f : M.Fd) (a b c : Int) (l : List UInt8) : Prop where
  e : f = ⟨a, b.toNat, c.toNat, l⟩
  b0 : 0 ≤ b
  b1 : b ≤ 255
  c0 : 0 ≤ c
  c1 : c ≤ 18446744073709551615
  a0 : -9223372036854775808 ≤ a
  a1 : a ≤ 9223372036854775807
  hl : l.length ≤ 9223372036854775807

/-- element i of a slice of fields -/
structure At4 (w : World) (g off i : Nat) (a b c : Int) (l : List UInt8) : Prop where
  q0 : w.cell? ⟨g, off + i * 4, none⟩ = some (.int .i64 a)
  q1 : w.cell? ⟨g, off + i * 4 + 1, none⟩ = some (.int .u8 b)
  q2 : w.cell? ⟨g, off + i * 4 + 2, none⟩ = some (.int .u64 c)
  q3 : w.cell? ⟨g, off + i * 4 + 3, none⟩ = some (.string ⟨l.toArray⟩)

/-- the slice (its address ad) has the fields fs, in blocks below B -/
def Flds (w : World) (B : Nat) (ad : Option Addr) (fs : List M.Fd) : Prop :=
  fs.length ≤ 9223372036854775807 ∧ (fs ≠ [] → ∃ g off, ad = some ⟨g, off, none⟩ ∧ g < B ∧ ∀ i f, fs[i]? = some f → ∃ a b c l, Fit f a b c l ∧ At4 w g off i a b c l)

theorem Flds.keep {w w' : World} {B : Nat} {ad : Option Addr} {fs : List M.Fd} (h : Flds w B ad fs) (hb : Below B w w') : Flds w' B ad fs := by
  refine ⟨h.1, fun hne => ?_⟩
  obtain ⟨g, off, e, hg, hi⟩ := h.2 hne
  refine ⟨g, off, e, hg, fun i f hf => ?_⟩
  obtain ⟨a, b, c, l, hfit, q⟩ := hi i f hf
  exact ⟨a, b, c, l, hfit, (hb.cell (p := ⟨g, _, none⟩) hg).trans q.q0, (hb.cell (p := ⟨g, _, none⟩) hg).trans q.q1, (hb.cell (p := ⟨g, _, none⟩) hg).trans q.q2, (hb.cell (p := ⟨g, _, none⟩) hg).trans q.q3⟩

theorem enc1_le {f : M.Fd} {a b c : Int} {l : List UInt8} (h : Fit f a b c l) (hm : M.may f = true) : (M.enc1 f).length ≤ 65556 := by
  obtain ⟨rfl, hb0, hb1, hc0, hc1, _, _, _⟩ := h
  obtain ⟨h1, h2, hcase⟩ := may_cases hb0 hc0 hm
  have hk := M.vnum_len10 (M.key ⟨a, b.toNat, c.toNat, l⟩) (by simp only [M.key]; omega)
  rw [M.enc1, List.length_append]
  rcases hcase with ⟨rfl, rfl⟩ | ⟨rfl, rfl⟩ | ⟨rfl, rfl, _⟩ | ⟨rfl, rfl, hll⟩
  · have := M.vnum_len10 c.toNat (by omega)
    simp [M.body] at hk ⊢; omega
  · simp [M.body, M.le_len] at hk ⊢; omega
  · simp [M.body, M.le_len] at hk ⊢; omega
  · have := M.vnum_len10 l.length (by omega)
    simp [M.body] at hk ⊢; omega

set_option maxHeartbeats 2000000 in
theorem write_long (w : World) (ad : Option Addr) (cap n : Nat) (hn : n ≤ 9223372036854775807) (hlen : 4096 < n) :
    Calls Try.prog 20 #[.slice ad n cap] w fun e w' => e = .returned (.tuple #[.string ⟨#[]⟩, .int .i64 3]) ∧ w = w' := by
  go_enter Try.func20, Try.ntmps20
  go_wp2
  go_ret2
  exact ⟨rfl, rfl⟩

set_option maxHeartbeats 2000000 in
theorem write_short (w : World) (ad : Option Addr) (cap n : Nat) (fs : List M.Fd) (hfn : n = fs.length) (hfs : Flds w w.heap.size ad fs) (hlen : n ≤ 4096) :
    Calls Try.prog 20 #[.slice ad n cap] w fun e w' => e = .returned (.tuple #[.string ⟨(M.wr fs).2.toArray⟩, .int .i64 (M.wr fs).1]) ∧ Below w.heap.size w w' := by
  obtain ⟨R, hR⟩ : ∃ R, R = M.wr fs := ⟨_, rfl⟩
  rw [← hR]
  have HR := Lib.hid hR
  have Hfn := Lib.hid hfn
  have Hfs := Lib.hid hfs
  clear hR hfn hfs
  go_enter Try.func20, Try.ntmps20
  go_wp2
  go_loopw [4, 15] (fun s i wr => ∃ (k : Nat) (t : Nat), i = .int .i64 (k : Int) ∧ k ≤ n ∧ s = .int .i64 (t : Int) ∧ t = (M.enc (fs.take k)).length ∧ t ≤ k * 65556 ∧ (fs.take k).all M.may = true ∧ Below w.heap.size w wr) (fun _ i _ => n - (intOf i).toNat)
  case atStart => exact ⟨0, 0, rfl, by omega, rfl, rfl, by omega, rfl, Below.refl _ _⟩
  case round =>
    obtain ⟨k, t, rfl, hk, rfl, ht, htb, hall, hbel⟩ := hrel
    have Ht := Lib.hid ht
    have Hall := Lib.hid hall
    have Hbel := Lib.hid hbel
    clear ht hall hbel
    by_cases hlt : k < n
    · have hne : fs ≠ [] := by rintro rfl; simp at Hfn; have := Hfn.out; omega
      obtain ⟨g, off, rfl, hg, hi⟩ := (Hfs.out.keep Hbel.out).2 hne
      obtain ⟨f, hf⟩ : ∃ f, fs[k]? = some f := ⟨fs[k]'(by have := Hfn.out; omega), by simp⟩
      obtain ⟨a, b, c, l, hfit, q⟩ := hi k f hf
      obtain ⟨q0, q1, q2, q3⟩ := q
      obtain ⟨hfe, hb0, hb1, hc0, hc1, ha0, ha1, hll⟩ := hfit
      have Hf := Lib.hid hf
      have Hfe := Lib.hid hfe
      clear hf hfe hi hne
      have hmay : ∀ W, Calls Try.prog 32 #[.agg (fcells a b c l)] W fun e w' => e = .returned (.bool (M.may f)) ∧ W.alloc (.cells (fcells a b c l) 39) = w' := fun W => by rw [Hfe.out]; exact mayBe_any a b c l W hb0 hb1 hc0 (by omega)
      cases hmb : M.may f with
      | false =>
        rw [hmb] at hmay
        have hret : R = (2, []) := by
          have hall : fs.all M.may = false := by
            cases h : fs.all M.may with
            | false => rfl
            | true => have := (List.all_eq_true.1 h) f (List.mem_of_getElem? Hf.out); rw [hmb] at this; cases this
          rw [HR.out, M.wr, if_neg (by have := Hfn.out; omega), if_pos hall]
        have Hret := Lib.hid hret
        have Hmay := Lib.hid hmay
        clear hret hmay hmb
        go_wp2_with fail
        refine (Hmay.out _).mono ?_
        rintro e w' ⟨rfl, rfl⟩
        go_wp2
        go_ret2
        exact ⟨by rw [Hret.out]; rfl, Hbel.out.trans (((Below.refl _ _).alloc Hbel.out.size _).alloc (by have := Hbel.out.size; simp; omega) _)⟩
      | true =>
        rw [hmb] at hmay
        have hsz : ∀ W, Calls Try.prog 25 #[.agg (fcells a b c l)] W fun e w' => e = .returned (.int .i64 ((M.enc1 f).length : Int)) ∧ Below W.heap.size W w' := fun W => by
          rw [Hfe.out] at hmb ⊢
          exact size_yes a b c l W hb0 hb1 hc0 hc1 (by omega) hmb
        obtain ⟨z, hz⟩ : ∃ z : Nat, z = (M.enc1 f).length := ⟨_, rfl⟩
        have hzb : z ≤ 65556 := by rw [hz]; exact enc1_le ⟨Hfe.out, hb0, hb1, hc0, hc1, ha0, ha1, hll⟩ hmb
        rw [← hz] at hsz
        have hnext : t + z = (M.enc (fs.take (k + 1))).length := by
          rw [List.take_add_one, Hf.out, Ht.out, hz]
          simp [M.enc]
        have hall : (fs.take (k + 1)).all M.may = true := by
          rw [List.take_add_one, Hf.out, List.all_append, Hall.out]
          simp [hmb]
        have Hmay := Lib.hid hmay
        have Hsz := Lib.hid hsz
        have Hnext := Lib.hid hnext
        have Hall' := Lib.hid hall
        clear hmay hsz hnext hall hz hmb
        go_wp2_with fail
        refine (Hmay.out _).mono ?_
        rintro e w' ⟨rfl, rfl⟩
        go_wp2_with fail
        refine (Hsz.out _).mono ?_
        rintro e w2 ⟨rfl, hb2⟩
        have Hb2 := Lib.hid hb2
        clear hb2
        go_wp2
        go_roundw
        case rel =>
          refine ⟨k + 1, t + z, by go_num, by omega, by go_num, Hnext.out, by omega, Hall'.out, Hbel.out.trans ?_⟩
          exact (((Below.refl _ _).alloc Hbel.out.size _).alloc (by have := Hbel.out.size; simp; omega) _).trans (Hb2.out.mono (by have := Hbel.out.size; simp; omega))
        case measure => simp [intOf]; omega
    · have hkn : k = n := by omega
      have htake : fs.take k = fs := List.take_of_length_le (by have := Hfn.out; omega)
      have htl := Ht.out
      have hal := Hall.out
      rw [htake] at htl hal
      have htk : t ≤ 268517376 := by omega
      have Htl := Lib.hid htl
      have Hal := Lib.hid hal
      clear htl hal Ht Hall htake htb
      by_cases hbig : 65536 < t
      · have hret : R = (4, []) := by
          rw [HR.out, M.wr, if_neg (by have := Hfn.out; omega), if_neg (by simp [Hal.out]), if_pos (by rw [← Htl.out]; exact hbig)]
        have Hret := Lib.hid hret
        clear hret
        clear hkn
        go_wp2
        go_ret2
        exact ⟨by rw [Hret.out]; rfl, Hbel.out⟩
      · have hret : R = (0, M.enc fs) := by
          rw [HR.out, M.wr, if_neg (by have := Hfn.out; omega), if_neg (by simp [Hal.out]), if_neg (by rw [← Htl.out]; exact hbig)]
        have Hret := Lib.hid hret
        clear hret
        clear hkn
        obtain ⟨i0, hi, hz0, hz1, hz2⟩ := info_parts Try.info5
        go_wp2_with (at_make; refine wpList_make_own _ rfl _ _ 51 rfl w.heap.size 5 i0 (.int .u8 0) 1 Try.underlying51 hi hz0 hz1 _ _ _ t rfl rfl (by omega) ?b2 ?b3 Hbel.out.size ?_)
        case b2 => rw [hz2]; omega
        case b3 => unfold maxLen; omega
        intro w1 hown hgr
        have hB0 : Bytes 5 w1 w.heap.size (.slice (some ⟨wr.heap.size, 0, none⟩) 0 t) [] := hown
        have hbel1 : Below w.heap.size w w1 := Hbel.out.grown hgr Hbel.out.size (by simp)
        have HB0 := Lib.hid hB0
        have Hbel1 := Lib.hid hbel1
        clear hown hgr hB0 hbel1 hi hz0 hz1 hz2
        go_wp2
        go_loopw [7, 33] (fun v i wq => ∃ (j : Nat), i = .int .i64 (j : Int) ∧ j ≤ n ∧ Bytes 5 wq w.heap.size v (M.enc (fs.take j)) ∧ Below w.heap.size w wq) (fun _ i _ => n - (intOf i).toNat)
        case atStart => exact ⟨0, rfl, by omega, HB0.out, Hbel1.out⟩
        case round =>
          obtain ⟨j, rfl, hj, hown, hbelj⟩ := hrel
          have Hown := Lib.hid hown
          have Hbj := Lib.hid hbelj
          clear hown hbelj
          by_cases hlt : j < n
          · have hne : fs ≠ [] := by rintro rfl; have := Hfn.out; simp at this; omega
            obtain ⟨g, off, rfl, hg, hi⟩ := (Hfs.out.keep Hbj.out).2 hne
            obtain ⟨f, hf⟩ : ∃ f, fs[j]? = some f := ⟨fs[j]'(by have := Hfn.out; omega), by simp⟩
            obtain ⟨a, b, c, l, hfit, q⟩ := hi j f hf
            obtain ⟨q0, q1, q2, q3⟩ := q
            obtain ⟨hfe, hb0, hb1, hc0, hc1, ha0, ha1, hll⟩ := hfit
            have hmb : M.may f = true := List.all_eq_true.1 Hal.out f (List.mem_of_getElem? hf)
            have hle : (M.enc (fs.take j)).length ≤ 140737488200000 := by
              have h1 : (M.enc (fs.take j)).length + (M.enc (fs.drop j)).length = (M.enc fs).length := by
                rw [← List.length_append, ← M.enc_append, List.take_append_drop]
              have := Htl.out
              omega
            have hnext : M.enc (fs.take (j + 1)) = M.enc (fs.take j) ++ M.enc1 f := by
              rw [List.take_add_one, hf]
              simp [M.enc]
            rw [hfe] at hmb hnext
            have Hmb := Lib.hid hmb
            have Hnext := Lib.hid hnext
            have Hle := Lib.hid hle
            clear hmb hnext hle hf hfe hi hne
            go_wp2_with fail
            refine (appendField_any w.heap.size _ (M.enc (fs.take j)) a b c l _ (Hown.out.alloc _) hb0 hb1 hc0 hc1 Hmb.out Hle.out (by have := Hbj.out.size; simp; omega)).mono ?_
            rintro e w2 ⟨v2, rfl, hb2, hg2⟩
            have hbel2 : Below w.heap.size w w2 := (Hbj.out.alloc Hbj.out.size _).trans (hg2.below (by have := Hbj.out.size; simp; omega) (fun k hk => (Hown.out.lt k hk).1))
            have Hb2 := Lib.hid hb2
            have Hbel2 := Lib.hid hbel2
            clear hb2 hg2 hbel2
            go_wp2
            go_roundw
            case rel => exact ⟨j + 1, by go_num, by omega, by rw [Hnext.out]; exact Hb2.out, Hbel2.out⟩
            case measure => simp [intOf]; omega
          · have hjn : j = n := by omega
            have htake : fs.take j = fs := List.take_of_length_le (by have := Hfn.out; omega)
            have ho := Hown.out
            rw [htake] at ho
            have hconv := ho.conv Try.underlying51 Try.underlying5 Try.underlying9
            clear hjn htake ho
            go_wp2
            go_ret2
            exact ⟨by rw [Hret.out]; rfl, Hbj.out⟩
end Go.Proofs.Ytnnnnlcpmocnfaa
