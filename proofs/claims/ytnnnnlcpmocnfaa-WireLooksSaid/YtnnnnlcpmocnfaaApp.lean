/- THE WALKS OVER appendFixed, appendField. -/
import Derived.Test.YtnnnnlcpmocnfaaSize
namespace Go.Proofs.Ytnnnnlcpmocnfaa
open Go.RowKit
set_option linter.unusedVariables false

theorem fix_byte (n : Int) (h : 0 ≤ n) (k : Nat) : Value.int .u8 (n / 2 ^ (8 * k) % 256) = B (M.by8 (n.toNat / 256 ^ k % 256)) := by
  obtain ⟨m, rfl⟩ := Int.eq_ofNat_of_zero_le h
  rw [by8_int _ (Nat.mod_lt _ (by decide)), Int.toNat_natCast, show (256 : Nat) ^ k = 2 ^ (8 * k) from by rw [Nat.pow_mul]]
  simp

set_option maxHeartbeats 1000000 in
theorem appendFixed_any (base : Nat) (v0 : Value) (xs : List UInt8) (n : Int) (size : Nat) (w : World) (hown : Bytes 5 w base v0 xs) (hn0 : 0 ≤ n) (hn : n ≤ 18446744073709551615)
    (hs : size ≤ 8) (hlen : xs.length ≤ 140737488351000) (hb : base ≤ w.heap.size) :
    Calls Try.prog 40 #[v0, .int .u64 n, .int .i64 (size : Int)] w fun e w' => ∃ v', e = .returned v' ∧ Bytes 5 w' base v' (xs ++ M.le size n.toNat) ∧ Grew w v0 w' v' := by
  go_enter Try.func40, Try.ntmps40
  go_wp2
  go_loopw [0, 9] (fun v i wr => ∃ (k : Nat), i = .int .i64 (k : Int) ∧ k ≤ size ∧ Bytes 5 wr base v (xs ++ M.le k n.toNat) ∧ Grew w v0 wr v) (fun _ i _ => size - (intOf i).toNat)
  case atStart => exact ⟨0, rfl, by omega, by simpa [M.le] using hown, Grew.refl _ _⟩
  case round =>
    obtain ⟨k, rfl, hk, hown1, hg⟩ := hrel
    have hle : (xs ++ M.le k n.toNat).length ≤ 140737488355000 := by
      simp only [List.length_append, M.le_len]
      omega
    have hsz : base ≤ wr.heap.size := Nat.le_trans hb hg.g.size
    have Hle := Lib.hid hle; clear hle
    have Hsz := Lib.hid hsz; clear hsz
    by_cases hlt : k < size
    · have hsn := M.le_snoc k n.toNat
      have Hsn := Lib.hid hsn; clear hsn
      clear hlen hb
      go_wp2_with (at_builtin; refine wp_app_byte Try.info5 Try.underlying51 rfl _ _ rfl base _ _ rfl hown1 (M.by8 (n.toNat / 256 ^ k % 256)) _ (fix_byte n hn0 k) rfl Hle.out Hsz.out ?_)
      · intro v' w1 hown' hg'
        go_wp2
        go_roundw
        case rel => exact ⟨k + 1, by go_num, by omega, by rw [Hsn.out]; simpa using hown', hg.trans hg'⟩
        case measure => simp [intOf]; omega
    · have e : k = size := by omega
      have E := Lib.hid e; clear e
      go_wp2
      go_ret
      exact ⟨_, rfl, by rw [← E.out]; exact hown1, hg⟩

set_option maxHeartbeats 2000000 in
theorem appendField_any (base : Nat) (v0 : Value) (xs : List UInt8) (a b c : Int) (l : List UInt8) (w : World) (hown : Bytes 5 w base v0 xs) (hb0 : 0 ≤ b) (hb1 : b ≤ 255) (hc0 : 0 ≤ c) (hc1 : c ≤ 18446744073709551615)
    (hm : M.may ⟨a, b.toNat, c.toNat, l⟩ = true) (hlen : xs.length ≤ 140737488200000) (hb : base ≤ w.heap.size) :
    Calls Try.prog 33 #[v0, .agg (fcells a b c l)] w fun e w' => ∃ v', e = .returned v' ∧ Bytes 5 w' base v' (xs ++ M.enc1 ⟨a, b.toNat, c.toNat, l⟩) ∧ Grew w v0 w' v' := by
  obtain ⟨h1, h2, hcase⟩ := may_cases hb0 hc0 hm
  clear hm
  obtain ⟨en, hen⟩ : ∃ en, M.enc1 ⟨a, b.toNat, c.toNat, l⟩ = en := ⟨_, rfl⟩
  rw [hen]
  have hr2 : en = M.vnum (8 * a + b).toNat ++ M.body ⟨a, b.toNat, c.toNat, l⟩ := by
    rw [← hen, M.enc1, M.key]
    congr 2
    simp only
    omega
  have hk10 : (M.vnum (8 * a + b).toNat).length ≤ 10 := M.vnum_len10 _ (by omega)
  have Hr := Lib.hid hr2
  have Hk10 := Lib.hid hk10
  clear hr2 hen hk10
  rcases hcase with ⟨rfl, rfl⟩ | ⟨rfl, rfl⟩ | ⟨rfl, rfl, hcl⟩ | ⟨rfl, rfl, hll⟩
  · have hr0 := Hr.out
    have hk0 := Hk10.out
    simp only [Int.add_zero] at hr0 hk0
    clear Hr Hk10
    have Hr := Lib.hid hr0
    have Hk10 := Lib.hid hk0
    clear hr0 hk0
    go_enter Try.func33, Try.ntmps33
    go_wp2_with fail
    refine (key_any _ _ _ _ _ h1 h2 hb0 hb1).mono ?_
    rintro e w' ⟨rfl, rfl⟩
    go_wp2_with fail
    refine (appendNum_any base v0 xs _ _ ((hown.alloc _).alloc _) (by omega) (by omega) (by omega) (by simp; omega)).mono ?_
    rintro e w1 ⟨v1, rfl, hb1, hg1⟩
    have hlt1 := hown.lt
    have hx1 := hg1.blk (blk_alloc (blk_new w (.cells (fcells a 0 c []) 39)) _) (fun k hk => by have := hlt1 k hk; omega)
    obtain ⟨q0, q1, q2, q3⟩ := box4 hx1
    have hG := (((Grew.refl w v0).alloc _).alloc _).trans hg1
    have hsz1 : base ≤ w1.heap.size := Nat.le_trans hb hG.g.size
    have hl1 : (xs ++ M.vnum (8 * a).toNat).length ≤ 140737488200010 := by have := Hk10.out; simp only [List.length_append] at this ⊢; omega
    have HG := Lib.hid hG
    have Hl1 := Lib.hid hl1
    have Hb1 := Lib.hid hb1
    have Hs1 := Lib.hid hsz1
    have Hlt1 := Lib.hid hlt1
    have Hx1 := Lib.hid hx1
    clear hG hl1 hg1 hsz1 hlt1 hx1 q0 hb1
    go_wp2_with fail
    refine (appendNum_any base v1 _ _ _ Hb1.out (by omega) (by omega) (by have := Hl1.out; omega) Hs1.out).mono ?_
    rintro e w2 ⟨v2, rfl, hb2, hg2⟩
    go_wp2
    go_ret
    exact ⟨v2, rfl, by rw [Hr.out, ← List.append_assoc]; exact hb2, HG.out.trans hg2⟩
  · go_enter Try.func33, Try.ntmps33
    go_wp2_with fail
    refine (key_any _ _ _ _ _ h1 h2 hb0 hb1).mono ?_
    rintro e w' ⟨rfl, rfl⟩
    go_wp2_with fail
    refine (appendNum_any base v0 xs _ _ ((hown.alloc _).alloc _) (by omega) (by omega) (by omega) (by simp; omega)).mono ?_
    rintro e w1 ⟨v1, rfl, hb1, hg1⟩
    have hlt1 := hown.lt
    have hx1 := hg1.blk (blk_alloc (blk_new w (.cells (fcells a 1 c []) 39)) _) (fun k hk => by have := hlt1 k hk; omega)
    obtain ⟨q0, q1, q2, q3⟩ := box4 hx1
    have hG := (((Grew.refl w v0).alloc _).alloc _).trans hg1
    have hsz1 : base ≤ w1.heap.size := Nat.le_trans hb hG.g.size
    have hl1 : (xs ++ M.vnum (8 * a + 1).toNat).length ≤ 140737488200010 := by have := Hk10.out; simp only [List.length_append] at this ⊢; omega
    have HG := Lib.hid hG
    have Hl1 := Lib.hid hl1
    have Hb1 := Lib.hid hb1
    have Hs1 := Lib.hid hsz1
    have Hlt1 := Lib.hid hlt1
    have Hx1 := Lib.hid hx1
    clear hG hl1 hg1 hsz1 hlt1 hx1 q0 hb1
    go_wp2_with fail
    refine (appendFixed_any base v1 _ _ 8 _ Hb1.out (by omega) (by omega) (by omega) (by have := Hl1.out; omega) Hs1.out).mono ?_
    rintro e w2 ⟨v2, rfl, hb2, hg2⟩
    go_wp2
    go_ret
    exact ⟨v2, rfl, by rw [Hr.out, ← List.append_assoc]; exact hb2, HG.out.trans hg2⟩
  · go_enter Try.func33, Try.ntmps33
    go_wp2_with fail
    refine (key_any _ _ _ _ _ h1 h2 hb0 hb1).mono ?_
    rintro e w' ⟨rfl, rfl⟩
    go_wp2_with fail
    refine (appendNum_any base v0 xs _ _ ((hown.alloc _).alloc _) (by omega) (by omega) (by omega) (by simp; omega)).mono ?_
    rintro e w1 ⟨v1, rfl, hb1, hg1⟩
    have hlt1 := hown.lt
    have hx1 := hg1.blk (blk_alloc (blk_new w (.cells (fcells a 5 c []) 39)) _) (fun k hk => by have := hlt1 k hk; omega)
    obtain ⟨q0, q1, q2, q3⟩ := box4 hx1
    have hG := (((Grew.refl w v0).alloc _).alloc _).trans hg1
    have hsz1 : base ≤ w1.heap.size := Nat.le_trans hb hG.g.size
    have hl1 : (xs ++ M.vnum (8 * a + 5).toNat).length ≤ 140737488200010 := by have := Hk10.out; simp only [List.length_append] at this ⊢; omega
    have HG := Lib.hid hG
    have Hl1 := Lib.hid hl1
    have Hb1 := Lib.hid hb1
    have Hs1 := Lib.hid hsz1
    have Hlt1 := Lib.hid hlt1
    have Hx1 := Lib.hid hx1
    clear hG hl1 hg1 hsz1 hlt1 hx1 q0 hb1
    go_wp2_with fail
    refine (appendFixed_any base v1 _ _ 4 _ Hb1.out (by omega) (by omega) (by omega) (by have := Hl1.out; omega) Hs1.out).mono ?_
    rintro e w2 ⟨v2, rfl, hb2, hg2⟩
    go_wp2
    go_ret
    exact ⟨v2, rfl, by rw [Hr.out, ← List.append_assoc]; exact hb2, HG.out.trans hg2⟩
  · go_enter Try.func33, Try.ntmps33
    go_wp2_with fail
    refine (key_any _ _ _ _ _ h1 h2 hb0 hb1).mono ?_
    rintro e w' ⟨rfl, rfl⟩
    go_wp2_with fail
    refine (appendNum_any base v0 xs _ _ ((hown.alloc _).alloc _) (by omega) (by omega) (by omega) (by simp; omega)).mono ?_
    rintro e w1 ⟨v1, rfl, hb1, hg1⟩
    have hlt1 := hown.lt
    have hx1 := hg1.blk (blk_alloc (blk_new w (.cells (fcells a 2 0 l) 39)) _) (fun k hk => by have := hlt1 k hk; omega)
    obtain ⟨q0, q1, q2, q3⟩ := box4 hx1
    have hG := (((Grew.refl w v0).alloc _).alloc _).trans hg1
    have hsz1 : base ≤ w1.heap.size := Nat.le_trans hb hG.g.size
    have hl1 : (xs ++ M.vnum (8 * a + 2).toNat).length ≤ 140737488200010 := by have := Hk10.out; simp only [List.length_append] at this ⊢; omega
    have Hg1 := Lib.hid hg1
    have HG := Lib.hid hG
    have Hl1 := Lib.hid hl1
    have Hb1 := Lib.hid hb1
    have Hs1 := Lib.hid hsz1
    have Hlt1 := Lib.hid hlt1
    have Hx1 := Lib.hid hx1
    clear hG hl1 hg1 hsz1 hlt1 hx1 q0 hb1
    go_wp2_with fail
    refine (appendNum_any base v1 _ _ _ Hb1.out (by omega) (by omega) (by have := Hl1.out; omega) Hs1.out).mono ?_
    rintro e w2 ⟨v2, rfl, hb2, hg2⟩
    have hx2 := hg2.blk Hx1.out (fun k hk => by
      rcases Hg1.out.o with e | ⟨b, e, hb⟩
      · have := Hlt1.out k (e ▸ hk); omega
      · rw [e] at hk; injection hk with hk; simp at hb; omega)
    obtain ⟨r0, r1, r2, r3⟩ := box4 hx2
    have hl2 : (xs ++ M.vnum (8 * a + 2).toNat ++ M.vnum (l.length : Int).toNat).length + l.length ≤ 140737488355000 := by
      have := Hl1.out
      have := M.vnum_len10 (l.length : Int).toNat (by omega)
      simp only [List.length_append] at *
      omega
    have hs2 : base ≤ w2.heap.size := Nat.le_trans Hs1.out hg2.g.size
    have Hl2 := Lib.hid hl2
    have Hs2 := Lib.hid hs2
    have Hb2 := Lib.hid hb2
    have Hg2 := Lib.hid hg2
    clear hl2 hs2 hb2 hg2 hx2 q1 q2 q3 r0 r1 r2
    go_wp2_with (at_builtin; refine wp_app_str Try.info5 Try.underlying51 Try.underlying9 rfl _ _ rfl base v2 _ rfl Hb2.out l rfl Hl2.out Hs2.out ?_)
    intro v3 w3 hb3 hg3
    go_wp2
    go_ret
    exact ⟨v3, rfl, by rw [Hr.out]; simpa [M.body] using hb3, (HG.out.trans Hg2.out).trans hg3⟩
end Go.Proofs.Ytnnnnlcpmocnfaa
