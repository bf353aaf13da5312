/- HTTP: THE DOCUMENT'S OWN ReadResponse, Find. -/
import Derived.Test.YtjkinjfbjbehjaaGreatDoorGvb
import Derived.Test.YtjkinjfbjbehjaaGreatDoorRows
namespace Go.Proofs.YtjkinjfbjbehjaaGreatDoor
open Go.RowKit
set_option maxRecDepth 100000
set_option linter.unusedVariables false
set_option linter.unusedSimpArgs false

theorem H.cut_true {l : H.T} {c : UInt8} (h : (Lib.cut l [c]).2.2 = true) : l = (Lib.cut l [c]).1 ++ c :: (Lib.cut l [c]).2.1 := by
  by_cases hm : c ∈ l
  · obtain ⟨p, q, e, hn⟩ : ∃ p q, l = p ++ c :: q ∧ c ∉ p := by
      have key : ∀ t : H.T, c ∈ t → ∃ p q, t = p ++ c :: q ∧ c ∉ p := by
        intro t
        induction t with
        | nil => intro h; simp at h
        | cons d t ih =>
          intro h
          by_cases hc : d = c
          · exact ⟨[], t, by rw [hc]; rfl, by simp⟩
          · obtain ⟨p, q, e, hn⟩ := ih (by
              rcases List.mem_cons.1 h with e | e
              · exact absurd e.symm hc
              · exact e)
            exact ⟨d :: p, q, by rw [e]; rfl, by simp [hn]; exact fun e => hc e.symm⟩
      exact key _ hm
    have hc := cut_one c p q hn
    rw [← e] at hc
    rw [hc]
    exact e
  · rw [cut_none c l hm] at h; cases h
/-- a status of three digits -/
def H.st3 : H.T → Option Nat
  | [a, b, c] => if H.digit a.toNat && H.digit b.toNat && H.digit c.toNat && decide (49 ≤ a.toNat) && decide (a.toNat ≤ 53) then some (100 * (a.toNat - 48) + 10 * (b.toNat - 48) + (c.toNat - 48)) else none
  | _ => none
theorem H.whole_dF3 (v : H.T) (hv : v.length = 3) : H.whole10 v 3 = match H.dF 0 v with | some n => .ok n | none => .error 13 := by
  have hne : v ≠ [] := by rintro rfl; simp at hv
  have h := H.dF_parse v 0 (by rw [hv]; decide)
  unfold H.whole10 H.wholeO H.decO Lib.parseUintB
  rw [if_pos (by omega), if_neg hne, show (2 ^ 64 - 1 : Nat) = 18446744073709551615 from rfl]
  cases hd : H.dF 0 v with
  | some n =>
    rw [hd] at h
    simp only at h
    rw [h]
  | none =>
    rw [hd] at h
    simp only at h
    cases hp : Lib.parseUintM 18446744073709551615 0 v with
    | ok u => exact absurd hp (h u)
    | _ => rfl
theorem H.st3_eq (v : H.T) (r : H.T) : (if v.length = 3 then (match H.whole10 v 3 with | .error e => (.error e : H.R Nat) | .ok n => if 100 ≤ n ∧ n ≤ 599 then .ok (n, r) else .error 13) else .error 13) = match H.st3 v with | some n => .ok (n, r) | none => .error 13 := by
  by_cases hv : v.length = 3
  · rw [if_pos hv, H.whole_dF3 v hv]
    match v, hv with
    | [a, b, c], _ =>
      have ha := a.toNat_lt
      have hb := b.toNat_lt
      have hc := c.toNat_lt
      simp only [H.dF, H.st3]
      cases d1 : H.digit a.toNat with
      | false => simp
      | true =>
        cases d2 : H.digit b.toNat with
        | false => simp
        | true =>
          cases d3 : H.digit c.toNat with
          | false => simp
          | true =>
            unfold H.digit at d1 d2 d3
            simp only [Bool.and_eq_true, decide_eq_true_eq] at d1 d2 d3
            simp only [if_true, Bool.true_and, Bool.and_self]
            by_cases h : 49 ≤ a.toNat ∧ a.toNat ≤ 53
            · rw [if_pos (by omega), if_pos (by simp; omega)]
              simp only
              congr 2
              omega
            · rw [if_neg (by omega), if_neg (by simp; omega)]
  · rw [if_neg hv]
    match v with
    | [] => rfl
    | [a] => rfl
    | [a, b] => rfl
    | [a, b, c] => exact absurd rfl hv
    | a :: b :: c :: d :: t => rfl
def H.stD (t : H.T) : Option Nat := if (H.words t).2.2.2 && decide ((H.words t).1 = H.version) then H.st3 (H.words t).2.1 else none
theorem H.status_eq (l : H.T) : H.statusLine l = match H.line l with
  | .error e => .error e
  | .ok (t, r) => match H.stD t with
    | some n => .ok (n, r)
    | none => .error 13 := by
  unfold H.statusLine
  cases H.line l with
  | error e => rfl
  | ok p =>
    obtain ⟨t, r⟩ := p
    simp only
    have hw : H.words t = if (Lib.cut t [32]).2.2 && (Lib.cut (Lib.cut t [32]).2.1 [32]).2.2 then ((Lib.cut t [32]).1, (Lib.cut (Lib.cut t [32]).2.1 [32]).1, (Lib.cut (Lib.cut t [32]).2.1 [32]).2.1, true) else ([], [], [], false) := rfl
    unfold H.stD
    cases hp : Lib.hasPrefix t (H.version ++ [32]) with
    | true =>
      have hp' : H.version ++ [32] <+: t := List.isPrefixOf_iff_prefix.1 hp
      obtain ⟨s, hs⟩ := hp'
      have ht : Lib.trimPrefix t (H.version ++ [32]) = s := by
        unfold Lib.trimPrefix
        rw [if_pos hp, ← hs, List.drop_append, List.drop_of_length_le (Nat.le_refl _)]; simp
      have hc : Lib.cut t [32] = (H.version, s, true) := by
        have := cut_one 32 H.version s (by decide)
        rw [← hs, List.append_assoc]
        exact this
      rw [hc] at hw
      simp only at hw
      rw [ht]
      cases h2 : (Lib.cut s [32]).2.2 with
      | false =>
        rw [h2] at hw
        simp only [Bool.and_false, Bool.false_eq_true, if_false] at hw
        rw [hw]
        simp
      | true =>
        rw [h2] at hw
        simp only [Bool.and_true, if_true] at hw
        rw [hw]
        simp only [Bool.true_and, decide_true, if_true, decide_eq_true_eq]
        exact H.st3_eq _ r
    | false =>
      simp only [Bool.false_and, Bool.false_eq_true, if_false]
      cases h1 : (Lib.cut t [32]).2.2 with
      | false =>
        rw [h1] at hw
        simp only [Bool.false_and, Bool.false_eq_true, if_false] at hw
        rw [hw]
        simp
      | true =>
        have hne : ¬ (Lib.cut t [32]).1 = H.version := fun e => by
          have := H.cut_true h1
          rw [e] at this
          have hp2 : Lib.hasPrefix t (H.version ++ [32]) = true := List.isPrefixOf_iff_prefix.2 ⟨(Lib.cut t [32]).2.1, by rw [List.append_assoc]; exact this.symm⟩
          rw [hp] at hp2; cases hp2
        cases h2 : (Lib.cut (Lib.cut t [32]).2.1 [32]).2.2 with
        | false =>
          rw [h1, h2] at hw
          simp only [Bool.and_false, Bool.false_eq_true, if_false] at hw
          rw [hw]
          simp
        | true =>
          rw [h1, h2] at hw
          simp only [Bool.and_true, if_true] at hw
          rw [hw]
          simp [hne]
theorem H.resR_eq (most : Int) (l : H.T) : H.resR most l = match H.line l with
  | .error e => .error e
  | .ok (t, r) => match H.stD t with
    | none => .error 13
    | some n => match H.allR true most r with
      | .error e => .error e
      | .ok ((hs, b), r2) => .ok (⟨n, hs, b⟩, r2) := by
  unfold H.resR
  rw [H.status_eq]
  cases H.line l with
  | error e => rfl
  | ok p =>
    obtain ⟨t, r⟩ := p
    simp only
    cases H.stD t with
    | none => rfl
    | some n =>
      simp only
      rw [H.rd_heads]
      unfold H.allR
      cases H.rd r with
      | error e => rfl
      | ok p =>
        obtain ⟨hs, r'⟩ := p
        simp only
        have f1 : (H.frOf hs).lens = H.lensOf hs := rfl
        have f2 : (H.frOf hs).cods = H.codsOf hs := rfl
        rw [f1, f2]
        by_cases h0 : 0 < (H.lensOf hs).length + (H.codsOf hs).length
        · rw [if_pos h0]
          have : H.bodyD true most hs r' = H.body most (H.frOf hs) r' := by
            unfold H.bodyD
            rw [show decide ((H.lensOf hs).length + (H.codsOf hs).length = 0) = false from decide_eq_false (by omega)]
            simp
          rw [this]
          cases H.body most (H.frOf hs) r' with
          | error e => rfl
          | ok q => rfl
        · rw [if_neg h0]
          have : H.bodyD true most hs r' = .error 13 := by
            unfold H.bodyD
            rw [show decide ((H.lensOf hs).length + (H.codsOf hs).length = 0) = true from decide_eq_true (by omega)]
            simp
          rw [this]
def RsOut (w w' : World) (q : H.Rs) (n : Nat) (c : Int) (e : Ending) : Prop := Below w.heap.size w w' ∧ ∃ ad k cap, e = .returned (.tuple #[.agg #[.int .i64 (q.status : Int), .slice ad k cap, S q.body], .int .i64 (n : Int), .int .i64 c]) ∧ k = q.hs.length ∧ Hds w' ad q.hs
set_option maxHeartbeats 8000000 in
theorem drs_any (w : World) (l : H.T) (most : Int) (hl : l.length ≤ 1000000000) (q : H.Rs) (n : Nat) (c : Int) (hq : H.readResponse l most = (q, n, c)) : Calls Tryz.prog 13 #[S l, .int .i64 most] w fun e w' => RsOut w w' q n c e := by
  obtain ⟨y, hy⟩ : ∃ y : Int, ((l.length : Nat) : Int) = y := ⟨_, rfl⟩
  have hyl : y ≤ 1000000000 := by omega
  obtain ⟨X, hX⟩ : ∃ X, X = w.alloc (.cells #[.int .i64 0, .slice none 0 0, S []] 29) := ⟨_, rfl⟩
  have hbX : Below w.heap.size w X := by rw [hX]; exact (Below.refl _ w).alloc (Nat.le_refl _) _
  have hkX : X.heap[w.heap.size]? = some (.cells #[.int .i64 0, .slice none 0 0, S []] 29 (0, 0)) := by rw [hX]; exact blk_new w _
  have HbX := Lib.hid hbX
  have HkX := Lib.hid hkX
  clear hbX hkX
  unfold H.readResponse at hq
  by_cases hm : H.okMost most
  · rw [if_pos hm, H.resR_eq] at hq
    have Hm := Lib.hid hm
    obtain ⟨hm0, hm1⟩ := hm
    have hline := fun W => csy (dline_any W l (by omega))
    cases hln : H.line l with
    | error c1 =>
      have hD : H.lineD l = ([], 0, c1) := by unfold H.lineD; rw [hln]
      rw [hD] at hline
      rw [hln] at hq
      simp only at hq
      obtain ⟨rfl, rfl, rfl⟩ := trip hq
      have hc := H.line_ne hln
      have hc' : (c == 0) = false := by simpa using hc
      have hc2 : (c != 0) = true := by simpa using hc
      clear hD hln hq
      go_enter Tryz.func13, Tryz.ntmps13
      go_upto_region 1 with (fail)
      rw [← hX]
      clear hX
      obtain ⟨a0, a1, a2⟩ := box3 HkX.out
      obtain ⟨f0, f1, f2⟩ := frz3 HkX.out
      have hl0 := blk_lt HkX.out
      go_wp2_with (first | (go_at_call 30; refine (hline _).mono ?_; rintro e w1 ⟨rfl, rfl⟩) | fail)
      obtain ⟨V, hV⟩ : ∃ V, V = ((X.setCell ⟨w.heap.size, 0, none⟩ (.int .i64 0)).setCell ⟨w.heap.size, 1, none⟩ (.slice none 0 0)).setCell ⟨w.heap.size, 2, none⟩ (S []) := ⟨_, rfl⟩
      rw [← hV]
      obtain ⟨hkV, hgV⟩ := put3 HkX.out _ _ _ hV
      obtain ⟨k0, k1, k2⟩ := box3 hkV
      clear hV a0 a1 a2 f0 f1 f2
      refine bodyPost_ret (by simp [results, Tryz.results13, go_sem, k0, k1, k2]; try rfl) rfl ?_
      exact ⟨grown_below HbX.out hgV (Nat.le_refl _) hl0, none, 0, 0, rfl, rfl, fun h => absurd rfl h⟩
    | ok p =>
      obtain ⟨t, r⟩ := p
      have hlen := H.line_len hln
      have hD : H.lineD l = (t, l.length - r.length, 0) := by unfold H.lineD; rw [hln]
      rw [hD] at hline
      rw [hln] at hq
      simp only at hq
      have hdr := line_drop hln
      obtain ⟨k, hk⟩ : ∃ k : Nat, l.length - r.length = k := ⟨_, rfl⟩
      rw [hk] at hline hdr
      have hword := fun W => dwords_any W t (by omega)
      obtain ⟨u1, u2, u3, u4, hu⟩ : ∃ a b c d, H.words t = (a, b, c, d) := ⟨_, _, _, _, rfl⟩
      have hwl := words_len t
      rw [hu] at hword hwl
      simp only at hword hwl
      clear hD hln
      cases u4 with
      | false =>
        rw [show H.stD t = none from by unfold H.stD; rw [hu]; simp] at hq
        simp only at hq
        obtain ⟨rfl, rfl, rfl⟩ := trip hq
        clear hq hu
        go_enter Tryz.func13, Tryz.ntmps13
        go_upto_region 1 with (fail)
        rw [← hX]
        clear hX
        go_upto_region 8 with (first | (go_at_call 30; refine (hline _).mono ?_; rintro e w1 ⟨rfl, rfl⟩) | (go_at_call 31; refine (hword _).mono ?_; rintro e w4 ⟨rfl, n4, rfl⟩))
        have hbn := below_drewN' X n4
        have K4 := Lib.hid (blk_under HkX.out hbn)
        have B4 := Lib.hid (HbX.out.trans (hbn.mono HbX.out.size))
        obtain ⟨Z, hZ⟩ : ∃ Z, Z = X.drewN n4 := ⟨_, rfl⟩
        rw [← hZ] at K4 B4 ⊢
        clear hbn hZ
        obtain ⟨a0, a1, a2⟩ := box3 K4.out
        obtain ⟨f0, f1, f2⟩ := frz3 K4.out
        have hl0 := blk_lt K4.out
        go_wp2
        obtain ⟨V, hV⟩ : ∃ V, V = ((Z.setCell ⟨w.heap.size, 0, none⟩ (.int .i64 0)).setCell ⟨w.heap.size, 1, none⟩ (.slice none 0 0)).setCell ⟨w.heap.size, 2, none⟩ (S []) := ⟨_, rfl⟩
        rw [← hV]
        obtain ⟨hkV, hgV⟩ := put3 K4.out _ _ _ hV
        obtain ⟨k0, k1, k2⟩ := box3 hkV
        clear hV a0 a1 a2 f0 f1 f2
        refine bodyPost_ret (by simp [results, Tryz.results13, go_sem, k0, k1, k2]; try rfl) rfl ?_
        exact ⟨grown_below B4.out hgV (Nat.le_refl _) hl0, none, 0, 0, rfl, rfl, fun h => absurd rfl h⟩
      | true =>
        by_cases t1 : u1 = H.version
        · have t1' : u1 = [72, 84, 84, 80, 47, 49, 46, 49] := t1
          subst t1'
          by_cases h3 : u2.length = 3
          · obtain ⟨x0, x1, x2, rfl⟩ : ∃ a b c, u2 = [a, b, c] := by
              match u2, h3 with
              | [a, b, c], _ => exact ⟨a, b, c, rfl⟩
            obtain ⟨z0, hz0⟩ : ∃ z : Nat, x0.toNat = z := ⟨_, rfl⟩
            obtain ⟨z1, hz1⟩ : ∃ z : Nat, x1.toNat = z := ⟨_, rfl⟩
            obtain ⟨z2, hz2⟩ : ∃ z : Nat, x2.toNat = z := ⟨_, rfl⟩
            have y0 : z0 < 256 := by rw [← hz0]; exact x0.toNat_lt
            have y1 : z1 < 256 := by rw [← hz1]; exact x1.toNat_lt
            have y2 : z2 < 256 := by rw [← hz2]; exact x2.toNat_lt
            have i0 : ∀ W, (Instr.index 9 (S [x0, x1, x2]) (.int .i64 0)).run Tryz.prog W = .ok (.int .u8 (z0 : Int)) W := fun W => index_str [x0, x1, x2] 0 (by simp) (z0 : Int) (by rw [← hz0]; rfl) W
            have i1 : ∀ W, (Instr.index 9 (S [x0, x1, x2]) (.int .i64 1)).run Tryz.prog W = .ok (.int .u8 (z1 : Int)) W := fun W => index_str [x0, x1, x2] 1 (by simp) (z1 : Int) (by rw [← hz1]; rfl) W
            have i2 : ∀ W, (Instr.index 9 (S [x0, x1, x2]) (.int .i64 2)).run Tryz.prog W = .ok (.int .u8 (z2 : Int)) W := fun W => index_str [x0, x1, x2] 2 (by simp) (z2 : Int) (by rw [← hz2]; rfl) W
            have hs3 : H.stD t = if H.digit z0 && H.digit z1 && H.digit z2 && decide (49 ≤ z0) && decide (z0 ≤ 53) then some (100 * (z0 - 48) + 10 * (z1 - 48) + (z2 - 48)) else none := by
              unfold H.stD
              rw [hu]
              simp only [Bool.true_and]
              rw [if_pos (by exact decide_eq_true rfl)]
              simp only [H.st3, hz0, hz1, hz2]
            obtain ⟨U, hU⟩ : ∃ U, [x0, x1, x2] = U := ⟨_, rfl⟩
            have hUl : (U.length : Int) = 3 := by rw [← hU]; rfl
            rw [hU] at hword i0 i1 i2
            rw [hs3] at hq
            have hd0 := fun W => csy (ddigit W z0 y0)
            have hd1 := fun W => csy (ddigit W z1 y1)
            have hd2 := fun W => csy (ddigit W z2 y2)
            clear hs3 hu hU hz0 hz1 hz2 h3 t1 hwl
            cases g0 : H.digit z0 with
            | false =>
              rw [g0] at hd0 hq
              simp only [Bool.false_and, Bool.false_eq_true, if_false] at hq
              obtain ⟨rfl, rfl, rfl⟩ := trip hq
              clear hq hd1 hd2 g0
              go_enter Tryz.func13, Tryz.ntmps13
              go_upto_region 1 with (fail)
              rw [← hX]
              clear hX
              go_upto_region 8 with (first | (go_at_call 30; refine (hline _).mono ?_; rintro e w1 ⟨rfl, rfl⟩) | (go_at_call 31; refine (hword _).mono ?_; rintro e w4 ⟨rfl, n4, rfl⟩) | (go_at_call 38; with_reducible refine (hd0 _).mono ?_; rintro e w5 ⟨rfl, rfl⟩))
              have hbn := below_drewN' X n4
              have K4 := Lib.hid (blk_under HkX.out hbn)
              have B4 := Lib.hid (HbX.out.trans (hbn.mono HbX.out.size))
              obtain ⟨Z, hZ⟩ : ∃ Z, Z = X.drewN n4 := ⟨_, rfl⟩
              rw [← hZ] at K4 B4 ⊢
              clear hbn hZ
              obtain ⟨a0, a1, a2⟩ := box3 K4.out
              obtain ⟨f0, f1, f2⟩ := frz3 K4.out
              have hl0 := blk_lt K4.out
              go_wp2
              obtain ⟨V, hV⟩ : ∃ V, V = ((Z.setCell ⟨w.heap.size, 0, none⟩ (.int .i64 0)).setCell ⟨w.heap.size, 1, none⟩ (.slice none 0 0)).setCell ⟨w.heap.size, 2, none⟩ (S []) := ⟨_, rfl⟩
              rw [← hV]
              obtain ⟨hkV, hgV⟩ := put3 K4.out _ _ _ hV
              obtain ⟨k0, k1, k2⟩ := box3 hkV
              clear hV a0 a1 a2 f0 f1 f2
              refine bodyPost_ret (by simp [results, Tryz.results13, go_sem, k0, k1, k2]; try rfl) rfl ?_
              exact ⟨grown_below B4.out hgV (Nat.le_refl _) hl0, none, 0, 0, rfl, rfl, fun h => absurd rfl h⟩
            | true =>
              rw [g0] at hd0 hq
              cases g1 : H.digit z1 with
              | false =>
                rw [g1] at hd1 hq
                simp only [Bool.false_and, Bool.and_false, Bool.false_eq_true, if_false] at hq
                obtain ⟨rfl, rfl, rfl⟩ := trip hq
                clear hq hd2 g0 g1
                have e01 : True := trivial
                · skip
                  go_enter Tryz.func13, Tryz.ntmps13
                  go_upto_region 1 with (fail)
                  rw [← hX]
                  clear hX
                  go_upto_region 8 with (first | (go_at_call 30; refine (hline _).mono ?_; rintro e w1 ⟨rfl, rfl⟩) | (go_at_call 31; refine (hword _).mono ?_; rintro e w4 ⟨rfl, n4, rfl⟩) | (go_at_call 38; with_reducible refine (hd0 _).mono ?_; rintro e w5 ⟨rfl, rfl⟩) | (go_at_call 38; with_reducible refine (hd1 _).mono ?_; rintro e w5 ⟨rfl, rfl⟩))
                  have hbn := below_drewN' X n4
                  have K4 := Lib.hid (blk_under HkX.out hbn)
                  have B4 := Lib.hid (HbX.out.trans (hbn.mono HbX.out.size))
                  obtain ⟨Z, hZ⟩ : ∃ Z, Z = X.drewN n4 := ⟨_, rfl⟩
                  rw [← hZ] at K4 B4 ⊢
                  clear hbn hZ
                  obtain ⟨a0, a1, a2⟩ := box3 K4.out
                  obtain ⟨f0, f1, f2⟩ := frz3 K4.out
                  have hl0 := blk_lt K4.out
                  go_wp2
                  obtain ⟨V, hV⟩ : ∃ V, V = ((Z.setCell ⟨w.heap.size, 0, none⟩ (.int .i64 0)).setCell ⟨w.heap.size, 1, none⟩ (.slice none 0 0)).setCell ⟨w.heap.size, 2, none⟩ (S []) := ⟨_, rfl⟩
                  rw [← hV]
                  obtain ⟨hkV, hgV⟩ := put3 K4.out _ _ _ hV
                  obtain ⟨k0, k1, k2⟩ := box3 hkV
                  clear hV a0 a1 a2 f0 f1 f2
                  refine bodyPost_ret (by simp [results, Tryz.results13, go_sem, k0, k1, k2]; try rfl) rfl ?_
                  exact ⟨grown_below B4.out hgV (Nat.le_refl _) hl0, none, 0, 0, rfl, rfl, fun h => absurd rfl h⟩
              | true =>
                rw [g1] at hd1 hq
                cases g2 : H.digit z2 with
                | false =>
                  rw [g2] at hd2 hq
                  simp only [Bool.false_and, Bool.and_false, Bool.false_eq_true, if_false] at hq
                  obtain ⟨rfl, rfl, rfl⟩ := trip hq
                  clear hq g0 g1 g2
                  go_enter Tryz.func13, Tryz.ntmps13
                  go_upto_region 1 with (fail)
                  rw [← hX]
                  clear hX
                  go_upto_region 8 with (first | (go_at_call 30; refine (hline _).mono ?_; rintro e w1 ⟨rfl, rfl⟩) | (go_at_call 31; refine (hword _).mono ?_; rintro e w4 ⟨rfl, n4, rfl⟩) | (go_at_call 38; with_reducible refine (hd0 _).mono ?_; rintro e w5 ⟨rfl, rfl⟩) | (go_at_call 38; with_reducible refine (hd1 _).mono ?_; rintro e w5 ⟨rfl, rfl⟩) | (go_at_call 38; with_reducible refine (hd2 _).mono ?_; rintro e w5 ⟨rfl, rfl⟩))
                  have hbn := below_drewN' X n4
                  have K4 := Lib.hid (blk_under HkX.out hbn)
                  have B4 := Lib.hid (HbX.out.trans (hbn.mono HbX.out.size))
                  obtain ⟨Z, hZ⟩ : ∃ Z, Z = X.drewN n4 := ⟨_, rfl⟩
                  rw [← hZ] at K4 B4 ⊢
                  clear hbn hZ
                  obtain ⟨a0, a1, a2⟩ := box3 K4.out
                  obtain ⟨f0, f1, f2⟩ := frz3 K4.out
                  have hl0 := blk_lt K4.out
                  go_wp2
                  obtain ⟨V, hV⟩ : ∃ V, V = ((Z.setCell ⟨w.heap.size, 0, none⟩ (.int .i64 0)).setCell ⟨w.heap.size, 1, none⟩ (.slice none 0 0)).setCell ⟨w.heap.size, 2, none⟩ (S []) := ⟨_, rfl⟩
                  rw [← hV]
                  obtain ⟨hkV, hgV⟩ := put3 K4.out _ _ _ hV
                  obtain ⟨k0, k1, k2⟩ := box3 hkV
                  clear hV a0 a1 a2 f0 f1 f2
                  refine bodyPost_ret (by simp [results, Tryz.results13, go_sem, k0, k1, k2]; try rfl) rfl ?_
                  exact ⟨grown_below B4.out hgV (Nat.le_refl _) hl0, none, 0, 0, rfl, rfl, fun h => absurd rfl h⟩
                | true =>
                  rw [g2] at hd2 hq
                  simp only [Bool.true_and, Bool.and_eq_true, decide_eq_true_eq] at hq
                  unfold H.digit at g0 g1 g2
                  simp only [Bool.and_eq_true, decide_eq_true_eq] at g0 g1 g2
                  by_cases r1 : 49 ≤ z0
                  · have r1' : ¬ (z0 : Int) < 49 := by omega
                    by_cases r2 : z0 ≤ 53
                    · have r2' : ¬ (53 : Int) < (z0 : Int) := by omega
                      rw [if_pos ⟨r1, r2⟩] at hq
                      simp only at hq
                      have e1 : (⟨l.toArray⟩ : ByteArray).extract k l.length = ⟨r.toArray⟩ := by rw [hdr]; exact ext_drop l k
                      have b1 : (0 : Int) ≤ (k : Int) := by omega
                      have b2 : (k : Int) ≤ y := by omega
                      have hall := fun W => dall_any W r most true Hm.out (by omega)
                      cases hR : H.allR true most r with
                      | error c1 =>
                        rw [hR] at hq hall
                        simp only at hq
                        obtain ⟨rfl, rfl, rfl⟩ := trip hq
                        have hc := H.allR_ne hR
                        have hc' : (c == 0) = false := by simpa using hc
                        have hc2 : (c != 0) = true := by simpa using hc
                        clear hR hq hdr
                        go_enter Tryz.func13, Tryz.ntmps13
                        go_upto_region 1 with (fail)
                        rw [← hX]
                        clear hX
                        go_wp2_with (first | (go_at_call 30; refine (hline _).mono ?_; rintro e w1 ⟨rfl, rfl⟩) | (go_at_call 31; refine (hword _).mono ?_; rintro e w4 ⟨rfl, n4, rfl⟩) | (go_at_call 38; with_reducible refine (hd0 _).mono ?_; rintro e w5 ⟨rfl, rfl⟩) | (go_at_call 38; with_reducible refine (hd1 _).mono ?_; rintro e w5 ⟨rfl, rfl⟩) | (go_at_call 38; with_reducible refine (hd2 _).mono ?_; rintro e w5 ⟨rfl, rfl⟩))
                        refine (hall _).mono ?_
                        rintro e w6 ⟨he, hb6⟩
                        have he' : e = .returned (.tuple #[.slice none 0 0, S [], .int .i64 0, .int .i64 c]) := he
                        subst he'
                        have hbn := (below_drewN' X n4).trans (hb6.mono (below_drewN' X n4).size)
                        have K4 := Lib.hid (blk_under HkX.out hbn)
                        have B4 := Lib.hid (HbX.out.trans (hbn.mono HbX.out.size))
                        clear he hb6 hbn hall
                        obtain ⟨a0, a1, a2⟩ := box3 K4.out
                        obtain ⟨f0, f1, f2⟩ := frz3 K4.out
                        have hl0 := blk_lt K4.out
                        go_wp2
                        obtain ⟨V, hV⟩ : ∃ V, V = ((w6.setCell ⟨w.heap.size, 0, none⟩ (.int .i64 0)).setCell ⟨w.heap.size, 1, none⟩ (.slice none 0 0)).setCell ⟨w.heap.size, 2, none⟩ (S []) := ⟨_, rfl⟩
                        rw [← hV]
                        obtain ⟨hkV, hgV⟩ := put3 K4.out _ _ _ hV
                        obtain ⟨k0, k1, k2⟩ := box3 hkV
                        clear hV a0 a1 a2 f0 f1 f2
                        refine bodyPost_ret (by simp [results, Tryz.results13, go_sem, k0, k1, k2]; try rfl) rfl ?_
                        exact ⟨grown_below B4.out hgV (Nat.le_refl _) hl0, none, 0, 0, rfl, rfl, fun h => absurd rfl h⟩
                      | ok p =>
                        obtain ⟨⟨hs, b⟩, r2x⟩ := p
                        have hl2 := H.allR_len hR
                        rw [hR] at hq hall
                        simp only at hq
                        obtain ⟨rfl, rfl, rfl⟩ := trip hq
                        obtain ⟨m, hmm⟩ : ∃ m : Nat, r.length - r2x.length = m := ⟨_, rfl⟩
                        have hfin : (k : Int) + (m : Int) = ((l.length - r2x.length : Nat) : Int) := by omega
                        have hwk : IntKind.i64.wrap ((k : Int) + (m : Int)) = (k : Int) + (m : Int) := by rw [IntKind.wrap_i64]; omega
                        have Hfin := Lib.hid hfin
                        have hk' : ∀ W, (fun (e : Ending) (w' : World) => AllD w' W.heap.size r (.ok ((hs, b), r2x)) e ∧ Below W.heap.size W w') = fun e w' => (∃ ad cap, e = .returned (.tuple #[.slice ad hs.length cap, S b, .int .i64 (m : Int), .int .i64 0]) ∧ HRow w' W.heap.size (.slice ad hs.length cap) hs) ∧ Below W.heap.size W w' := fun W => by rw [← hmm]; rfl
                        have hall2 := fun W => (hk' W) ▸ hall W
                        have v0 : IntKind.u8.wrap ((z0 : Int) - 48) = (z0 : Int) - 48 := by rw [IntKind.wrap_u8]; omega
                        have v1 : IntKind.u8.wrap ((z1 : Int) - 48) = (z1 : Int) - 48 := by rw [IntKind.wrap_u8]; omega
                        have v2 : IntKind.u8.wrap ((z2 : Int) - 48) = (z2 : Int) - 48 := by rw [IntKind.wrap_u8]; omega
                        have v3 : IntKind.i64.wrap ((z0 : Int) - 48) = (z0 : Int) - 48 := by rw [IntKind.wrap_i64]; omega
                        have v4 : IntKind.i64.wrap ((z1 : Int) - 48) = (z1 : Int) - 48 := by rw [IntKind.wrap_i64]; omega
                        have v5 : IntKind.i64.wrap ((z2 : Int) - 48) = (z2 : Int) - 48 := by rw [IntKind.wrap_i64]; omega
                        have v6 : IntKind.i64.wrap (100 * ((z0 : Int) - 48)) = 100 * ((z0 : Int) - 48) := by rw [IntKind.wrap_i64]; omega
                        have v7 : IntKind.i64.wrap (10 * ((z1 : Int) - 48)) = 10 * ((z1 : Int) - 48) := by rw [IntKind.wrap_i64]; omega
                        have v8 : IntKind.i64.wrap (100 * ((z0 : Int) - 48) + 10 * ((z1 : Int) - 48)) = 100 * ((z0 : Int) - 48) + 10 * ((z1 : Int) - 48) := by rw [IntKind.wrap_i64]; omega
                        have v9 : IntKind.i64.wrap (100 * ((z0 : Int) - 48) + 10 * ((z1 : Int) - 48) + ((z2 : Int) - 48)) = 100 * ((z0 : Int) - 48) + 10 * ((z1 : Int) - 48) + ((z2 : Int) - 48) := by rw [IntKind.wrap_i64]; omega
                        have hst : 100 * ((z0 : Int) - 48) + 10 * ((z1 : Int) - 48) + ((z2 : Int) - 48) = ((100 * (z0 - 48) + 10 * (z1 - 48) + (z2 - 48) : Nat) : Int) := by omega
                        have Hst := Lib.hid hst
                        clear hR hq hdr hfin hk' hall hmm hst
                        go_enter Tryz.func13, Tryz.ntmps13
                        go_upto_region 1 with (fail)
                        rw [← hX]
                        clear hX
                        go_wp2_with (first | (go_at_call 30; refine (hline _).mono ?_; rintro e w1 ⟨rfl, rfl⟩) | (go_at_call 31; refine (hword _).mono ?_; rintro e w4 ⟨rfl, n4, rfl⟩) | (go_at_call 38; with_reducible refine (hd0 _).mono ?_; rintro e w5 ⟨rfl, rfl⟩) | (go_at_call 38; with_reducible refine (hd1 _).mono ?_; rintro e w5 ⟨rfl, rfl⟩) | (go_at_call 38; with_reducible refine (hd2 _).mono ?_; rintro e w5 ⟨rfl, rfl⟩))
                        refine (hall2 _).mono ?_
                        rintro e w6 ⟨⟨ad, cap, rfl, hrow⟩, hb6⟩
                        have hbn := (below_drewN' X n4).trans (hb6.mono (below_drewN' X n4).size)
                        have K4 := Lib.hid (blk_under HkX.out hbn)
                        have B4 := Lib.hid (HbX.out.trans (hbn.mono HbX.out.size))
                        have hxz := HkX.out
                        have hlt := blk_lt hxz
                        have Hrow := Lib.hid (row_base hrow (show w.heap.size + 1 ≤ (X.drewN n4).heap.size from Nat.lt_of_lt_of_le hlt (below_drewN' X n4).size))
                        clear hb6 hbn hall2 hxz hrow
                        go_upto_region 12 with (fail)
                        have hdw := (Below.refl w6.heap.size w6).drew
                        have K5 := Lib.hid (blk_under K4.out hdw)
                        have B5 := Lib.hid (B4.out.trans (hdw.mono B4.out.size))
                        have Hrow5 := Lib.hid (row_below Hrow.out hdw)
                        obtain ⟨a0, a1, a2⟩ := box3 K4.out
                        obtain ⟨f0, f1, f2⟩ := frz3 K4.out
                        obtain ⟨b0, b1', b2'⟩ := box3 K5.out
                        obtain ⟨h0, h1, h2⟩ := frz3 K5.out
                        have hl0 := blk_lt K4.out
                        have hl5 := blk_lt K5.out
                        clear hdw
                        go_region
                        go_wp2
                        obtain ⟨Q, hQ⟩ : ∃ Q : Int, 100 * ((z0 : Int) - 48) + 10 * ((z1 : Int) - 48) + ((z2 : Int) - 48) = Q := ⟨_, rfl⟩
                        rw [hQ]
                        have HQ := Lib.hid (hQ.symm.trans Hst.out)
                        obtain ⟨V0, hV0⟩ : ∃ V, V = ((w6.setCell ⟨w.heap.size, 0, none⟩ (.int .i64 Q)).setCell ⟨w.heap.size, 1, none⟩ (.slice ad hs.length cap)).setCell ⟨w.heap.size, 2, none⟩ (S b) := ⟨_, rfl⟩
                        rw [← hV0]
                        obtain ⟨hkV, hgV⟩ := put3 K4.out _ _ _ hV0
                        have hdw := (Below.refl V0.heap.size V0).drew
                        have hkD := blk_under hkV hdw
                        have hgD := hgV.trans (below_grown hdw _)
                        obtain ⟨k0, k1, k2⟩ := box3 hkD
                        clear hV0 a0 a1 a2 f0 f1 f2 b0 b1' b2' h0 h1 h2 hQ hkV
                        refine bodyPost_ret (by simp [results, Tryz.results13, go_sem, k0, k1, k2]; try rfl) rfl ?_
                        have hrv := row_far Hrow.out hgD (by omega)
                        refine ⟨grown_below B4.out hgD (Nat.le_refl _) hl0, ad, hs.length, cap, ?_, rfl, (HRow.hds hrv).2⟩
                        show _ = Ending.returned (.tuple #[.agg #[.int .i64 ((100 * (z0 - 48) + 10 * (z1 - 48) + (z2 - 48) : Nat) : Int), .slice ad hs.length cap, S b], .int .i64 ((l.length - r2x.length : Nat) : Int), .int .i64 0])
                        rw [← Hfin.out, ← HQ.out]
                    · have r2' : (53 : Int) < (z0 : Int) := by omega
                      rw [if_neg (fun h => r2 h.2)] at hq
                      simp only at hq
                      obtain ⟨rfl, rfl, rfl⟩ := trip hq
                      clear hq
                      go_enter Tryz.func13, Tryz.ntmps13
                      go_upto_region 1 with (fail)
                      rw [← hX]
                      clear hX
                      go_upto_region 8 with (first | (go_at_call 30; refine (hline _).mono ?_; rintro e w1 ⟨rfl, rfl⟩) | (go_at_call 31; refine (hword _).mono ?_; rintro e w4 ⟨rfl, n4, rfl⟩) | (go_at_call 38; with_reducible refine (hd0 _).mono ?_; rintro e w5 ⟨rfl, rfl⟩) | (go_at_call 38; with_reducible refine (hd1 _).mono ?_; rintro e w5 ⟨rfl, rfl⟩) | (go_at_call 38; with_reducible refine (hd2 _).mono ?_; rintro e w5 ⟨rfl, rfl⟩))
                      have hbn := below_drewN' X n4
                      have K4 := Lib.hid (blk_under HkX.out hbn)
                      have B4 := Lib.hid (HbX.out.trans (hbn.mono HbX.out.size))
                      obtain ⟨Z, hZ⟩ : ∃ Z, Z = X.drewN n4 := ⟨_, rfl⟩
                      rw [← hZ] at K4 B4 ⊢
                      clear hbn hZ
                      obtain ⟨a0, a1, a2⟩ := box3 K4.out
                      obtain ⟨f0, f1, f2⟩ := frz3 K4.out
                      have hl0 := blk_lt K4.out
                      go_wp2
                      obtain ⟨V, hV⟩ : ∃ V, V = ((Z.setCell ⟨w.heap.size, 0, none⟩ (.int .i64 0)).setCell ⟨w.heap.size, 1, none⟩ (.slice none 0 0)).setCell ⟨w.heap.size, 2, none⟩ (S []) := ⟨_, rfl⟩
                      rw [← hV]
                      obtain ⟨hkV, hgV⟩ := put3 K4.out _ _ _ hV
                      obtain ⟨k0, k1, k2⟩ := box3 hkV
                      clear hV a0 a1 a2 f0 f1 f2
                      refine bodyPost_ret (by simp [results, Tryz.results13, go_sem, k0, k1, k2]; try rfl) rfl ?_
                      exact ⟨grown_below B4.out hgV (Nat.le_refl _) hl0, none, 0, 0, rfl, rfl, fun h => absurd rfl h⟩
                  · have r1' : (z0 : Int) < 49 := by omega
                    rw [if_neg (fun h => r1 h.1)] at hq
                    simp only at hq
                    obtain ⟨rfl, rfl, rfl⟩ := trip hq
                    clear hq
                    go_enter Tryz.func13, Tryz.ntmps13
                    go_upto_region 1 with (fail)
                    rw [← hX]
                    clear hX
                    go_upto_region 8 with (first | (go_at_call 30; refine (hline _).mono ?_; rintro e w1 ⟨rfl, rfl⟩) | (go_at_call 31; refine (hword _).mono ?_; rintro e w4 ⟨rfl, n4, rfl⟩) | (go_at_call 38; with_reducible refine (hd0 _).mono ?_; rintro e w5 ⟨rfl, rfl⟩) | (go_at_call 38; with_reducible refine (hd1 _).mono ?_; rintro e w5 ⟨rfl, rfl⟩) | (go_at_call 38; with_reducible refine (hd2 _).mono ?_; rintro e w5 ⟨rfl, rfl⟩))
                    have hbn := below_drewN' X n4
                    have K4 := Lib.hid (blk_under HkX.out hbn)
                    have B4 := Lib.hid (HbX.out.trans (hbn.mono HbX.out.size))
                    obtain ⟨Z, hZ⟩ : ∃ Z, Z = X.drewN n4 := ⟨_, rfl⟩
                    rw [← hZ] at K4 B4 ⊢
                    clear hbn hZ
                    obtain ⟨a0, a1, a2⟩ := box3 K4.out
                    obtain ⟨f0, f1, f2⟩ := frz3 K4.out
                    have hl0 := blk_lt K4.out
                    go_wp2
                    obtain ⟨V, hV⟩ : ∃ V, V = ((Z.setCell ⟨w.heap.size, 0, none⟩ (.int .i64 0)).setCell ⟨w.heap.size, 1, none⟩ (.slice none 0 0)).setCell ⟨w.heap.size, 2, none⟩ (S []) := ⟨_, rfl⟩
                    rw [← hV]
                    obtain ⟨hkV, hgV⟩ := put3 K4.out _ _ _ hV
                    obtain ⟨k0, k1, k2⟩ := box3 hkV
                    clear hV a0 a1 a2 f0 f1 f2
                    refine bodyPost_ret (by simp [results, Tryz.results13, go_sem, k0, k1, k2]; try rfl) rfl ?_
                    exact ⟨grown_below B4.out hgV (Nat.le_refl _) hl0, none, 0, 0, rfl, rfl, fun h => absurd rfl h⟩
          · have h3' : ¬ ((u2.length : Nat) : Int) = 3 := by omega
            obtain ⟨zz, hzz⟩ : ∃ zz : Int, ((u2.length : Nat) : Int) = zz := ⟨_, rfl⟩
            rw [hzz] at h3'
            have h3a : (zz == 3) = false := by simpa using h3'
            have h3b : (zz != 3) = true := by simpa using h3'
            have hn3 : H.st3 u2 = none := by
              match u2 with
              | [] => rfl
              | [a] => rfl
              | [a, b] => rfl
              | [a, b, c] => exact absurd rfl h3
              | a :: b :: c :: d :: t => rfl
            rw [show H.stD t = none from by unfold H.stD; rw [hu]; simp [hn3]] at hq
            simp only at hq
            obtain ⟨rfl, rfl, rfl⟩ := trip hq
            clear hq hu hn3 h3 h3'
            go_enter Tryz.func13, Tryz.ntmps13
            go_upto_region 1 with (fail)
            rw [← hX]
            clear hX
            go_upto_region 8 with (first | (go_at_call 30; refine (hline _).mono ?_; rintro e w1 ⟨rfl, rfl⟩) | (go_at_call 31; refine (hword _).mono ?_; rintro e w4 ⟨rfl, n4, rfl⟩))
            have hbn := below_drewN' X n4
            have K4 := Lib.hid (blk_under HkX.out hbn)
            have B4 := Lib.hid (HbX.out.trans (hbn.mono HbX.out.size))
            obtain ⟨Z, hZ⟩ : ∃ Z, Z = X.drewN n4 := ⟨_, rfl⟩
            rw [← hZ] at K4 B4 ⊢
            clear hbn hZ
            obtain ⟨a0, a1, a2⟩ := box3 K4.out
            obtain ⟨f0, f1, f2⟩ := frz3 K4.out
            have hl0 := blk_lt K4.out
            go_wp2
            obtain ⟨V, hV⟩ : ∃ V, V = ((Z.setCell ⟨w.heap.size, 0, none⟩ (.int .i64 0)).setCell ⟨w.heap.size, 1, none⟩ (.slice none 0 0)).setCell ⟨w.heap.size, 2, none⟩ (S []) := ⟨_, rfl⟩
            rw [← hV]
            obtain ⟨hkV, hgV⟩ := put3 K4.out _ _ _ hV
            obtain ⟨k0, k1, k2⟩ := box3 hkV
            clear hV a0 a1 a2 f0 f1 f2
            refine bodyPost_ret (by simp [results, Tryz.results13, go_sem, k0, k1, k2]; try rfl) rfl ?_
            exact ⟨grown_below B4.out hgV (Nat.le_refl _) hl0, none, 0, 0, rfl, rfl, fun h => absurd rfl h⟩
        · have t10 : ¬ u1 = [72, 84, 84, 80, 47, 49, 46, 49] := t1
          have t1' : (u1 != [72, 84, 84, 80, 47, 49, 46, 49]) = true := by simpa using t10
          have t1'' : (u1 == [72, 84, 84, 80, 47, 49, 46, 49]) = false := by simpa using t10
          rw [show H.stD t = none from by unfold H.stD; rw [hu]; simp [t1]] at hq
          simp only at hq
          obtain ⟨rfl, rfl, rfl⟩ := trip hq
          clear hq hu t1 t10
          go_enter Tryz.func13, Tryz.ntmps13
          go_upto_region 1 with (fail)
          rw [← hX]
          clear hX
          go_upto_region 8 with (first | (go_at_call 30; refine (hline _).mono ?_; rintro e w1 ⟨rfl, rfl⟩) | (go_at_call 31; refine (hword _).mono ?_; rintro e w4 ⟨rfl, n4, rfl⟩))
          have hbn := below_drewN' X n4
          have K4 := Lib.hid (blk_under HkX.out hbn)
          have B4 := Lib.hid (HbX.out.trans (hbn.mono HbX.out.size))
          obtain ⟨Z, hZ⟩ : ∃ Z, Z = X.drewN n4 := ⟨_, rfl⟩
          rw [← hZ] at K4 B4 ⊢
          clear hbn hZ
          obtain ⟨a0, a1, a2⟩ := box3 K4.out
          obtain ⟨f0, f1, f2⟩ := frz3 K4.out
          have hl0 := blk_lt K4.out
          go_wp2
          obtain ⟨V, hV⟩ : ∃ V, V = ((Z.setCell ⟨w.heap.size, 0, none⟩ (.int .i64 0)).setCell ⟨w.heap.size, 1, none⟩ (.slice none 0 0)).setCell ⟨w.heap.size, 2, none⟩ (S []) := ⟨_, rfl⟩
          rw [← hV]
          obtain ⟨hkV, hgV⟩ := put3 K4.out _ _ _ hV
          obtain ⟨k0, k1, k2⟩ := box3 hkV
          clear hV a0 a1 a2 f0 f1 f2
          refine bodyPost_ret (by simp [results, Tryz.results13, go_sem, k0, k1, k2]; try rfl) rfl ?_
          exact ⟨grown_below B4.out hgV (Nat.le_refl _) hl0, none, 0, 0, rfl, rfl, fun h => absurd rfl h⟩
  · rw [if_neg hm] at hq
    obtain ⟨rfl, rfl, rfl⟩ := trip hq
    clear hq
    by_cases h0 : most < 0
    · skip
      go_enter Tryz.func13, Tryz.ntmps13
      go_upto_region 1 with (fail)
      rw [← hX]
      clear hX
      obtain ⟨a0, a1, a2⟩ := box3 HkX.out
      obtain ⟨f0, f1, f2⟩ := frz3 HkX.out
      have hl0 := blk_lt HkX.out
      go_wp2
      obtain ⟨V, hV⟩ : ∃ V, V = ((X.setCell ⟨w.heap.size, 0, none⟩ (.int .i64 0)).setCell ⟨w.heap.size, 1, none⟩ (.slice none 0 0)).setCell ⟨w.heap.size, 2, none⟩ (S []) := ⟨_, rfl⟩
      rw [← hV]
      obtain ⟨hkV, hgV⟩ := put3 HkX.out _ _ _ hV
      obtain ⟨k0, k1, k2⟩ := box3 hkV
      clear hV a0 a1 a2 f0 f1 f2
      refine bodyPost_ret (by simp [results, Tryz.results13, go_sem, k0, k1, k2]; try rfl) rfl ?_
      exact ⟨grown_below HbX.out hgV (Nat.le_refl _) hl0, none, 0, 0, rfl, rfl, fun h => absurd rfl h⟩
    · have h1 : 65536 < most := by simp [H.okMost] at hm; omega
      go_enter Tryz.func13, Tryz.ntmps13
      go_upto_region 1 with (fail)
      rw [← hX]
      clear hX
      obtain ⟨a0, a1, a2⟩ := box3 HkX.out
      obtain ⟨f0, f1, f2⟩ := frz3 HkX.out
      have hl0 := blk_lt HkX.out
      go_wp2
      obtain ⟨V, hV⟩ : ∃ V, V = ((X.setCell ⟨w.heap.size, 0, none⟩ (.int .i64 0)).setCell ⟨w.heap.size, 1, none⟩ (.slice none 0 0)).setCell ⟨w.heap.size, 2, none⟩ (S []) := ⟨_, rfl⟩
      rw [← hV]
      obtain ⟨hkV, hgV⟩ := put3 HkX.out _ _ _ hV
      obtain ⟨k0, k1, k2⟩ := box3 hkV
      clear hV a0 a1 a2 f0 f1 f2
      refine bodyPost_ret (by simp [results, Tryz.results13, go_sem, k0, k1, k2]; try rfl) rfl ?_
      exact ⟨grown_below HbX.out hgV (Nat.le_refl _) hl0, none, 0, 0, rfl, rfl, fun h => absurd rfl h⟩
set_option maxHeartbeats 2000000 in
theorem dfind_any (w : World) (hs : List H.Hd) (name : H.T) (ad : Option Addr) (cap : Nat) (hH : Hds w ad hs) (hsh : DShort hs) (hn : name.length ≤ 1000000000) (hmx : hs.length ≤ 1000000000) :
    Calls Tryz.prog 15 #[.slice ad hs.length cap, S name] w fun e w' => e = .returned (.tuple #[S (H.findO hs name).1, .bool (H.findO hs name).2]) ∧ Below w.heap.size w w' := by
  obtain ⟨z, hz⟩ : ∃ z : Int, ((hs.length : Nat) : Int) = z := ⟨_, rfl⟩
  have HH := Lib.hid hH
  have Hsh := Lib.hid hsh
  obtain ⟨r1, r2, hR⟩ : ∃ a b, H.findO hs name = (a, b) := ⟨_, _, rfl⟩
  have HR := Lib.hid hR
  rw [hR]
  simp only
  clear hH hsh hR
  go_enter Tryz.func15, Tryz.ntmps15
  go_wp2
  go_loopw [10] (fun u wr => ∃ j : Nat, u = .int .i64 (j : Int) ∧ j ≤ hs.length ∧ H.findO (hs.drop j) name = (r1, r2) ∧ Below w.heap.size w wr) (fun u _ => hs.length - (intOf u).toNat)
  case atStart => exact ⟨0, rfl, Nat.zero_le _, by simpa using HR.out, Below.refl _ _⟩
  case round =>
    obtain ⟨j, rfl, hj, hr, hb⟩ := hrel
    have Hr := Lib.hid hr
    have Hb := Lib.hid hb
    clear hr hb
    by_cases hlt : j < hs.length
    · have hjz : (j : Int) < z := by omega
      have hne : hs ≠ [] := by rintro rfl; simp at hlt
      obtain ⟨g1, o1, rfl, _, k1⟩ := (HH.out.under Hb.out) hne
      obtain ⟨x, hx⟩ : ∃ x, hs[j]? = some x := ⟨_, List.getElem?_eq_getElem hlt⟩
      obtain ⟨p1, p2⟩ := k1 j x hx
      obtain ⟨s1, s2⟩ := Hsh.out x (List.mem_of_getElem? hx)
      have hdr : hs.drop j = x :: hs.drop (j + 1) := by
        rw [List.drop_eq_getElem_cons hlt]
        congr 1
        exact (List.getElem?_eq_some_iff.1 hx).2
      have hfd : H.findO (hs.drop j) name = if H.alike x.name name then (x.value, true) else H.findO (hs.drop (j + 1)) name := by
        rw [hdr]
        unfold H.findO
        rw [List.find?_cons]
        cases H.alike x.name name <;> rfl
      have Hfd := Lib.hid (hfd.symm.trans Hr.out)
      have hal := H.low_alike x.name name
      have hl1 := fun W => low_any W x.name (by omega)
      have hl2 := fun W => low_any W name (by omega)
      obtain ⟨A, hA⟩ : ∃ A, H.low x.name = A := ⟨_, rfl⟩
      obtain ⟨B, hB⟩ : ∃ B, H.low name = B := ⟨_, rfl⟩
      rw [hA] at hl1 hal
      rw [hB] at hl2 hal
      obtain ⟨Y, hY⟩ : ∃ Y, Y = wr.alloc (.cells #[S x.name, S x.value] 73) := ⟨_, rfl⟩
      have hyk : Y.heap[wr.heap.size]? = some (.cells #[S x.name, S x.value] 73 (0, 0)) := by rw [hY]; exact blk_new wr _
      have hbY : Below wr.heap.size wr Y := by rw [hY]; exact (Below.refl _ wr).alloc (Nat.le_refl _) _
      have HbY := Lib.hid (Hb.out.trans (hbY.mono Hb.out.size))
      have Hyk := Lib.hid hyk
      obtain ⟨c0, c1⟩ := box2 hyk
      have lc := blk_lt hyk
      clear k1 hx hdr hfd hbY hyk hA hB
      go_upto_region 4 with (fail)
      rw [← hY]
      clear hY
      go_wp2_with fail
      with_reducible refine (hl1 _).mono ?_
      rintro e w3 ⟨rfl, hb3⟩
      have Hb3 := Lib.hid (HbY.out.trans (hb3.mono HbY.out.size))
      have Hk3 := Lib.hid (blk_under Hyk.out hb3)
      clear hb3 c0 c1 lc
      go_wp2_with fail
      refine (hl2 _).mono ?_
      rintro e w4 ⟨rfl, hb4⟩
      have Hb4 := Lib.hid (Hb3.out.trans (hb4.mono Hb3.out.size))
      obtain ⟨d0, d1⟩ := box2 (blk_under Hk3.out hb4)
      have ld := blk_lt (blk_under Hk3.out hb4)
      clear hb4
      by_cases hab : A = B
      · subst hab
        have hv := Hfd.out
        rw [if_pos (hal.1 rfl)] at hv
        injection hv with h1 h2
        subst h1 h2
        clear hal
        go_wp2
        go_ret2
        exact ⟨rfl, Hb4.out⟩
      · have hab' : (A == B) = false := by simpa using hab
        have hv := Hfd.out
        rw [if_neg (fun h => hab (hal.2 h))] at hv
        have Hv := Lib.hid hv
        clear hal hv hab
        go_wp2
        go_roundw
        case rel => exact ⟨j + 1, by go_num, by omega, Hv.out, Hb4.out⟩
        case measure => simp [intOf]; omega
    · have hjz : ¬ (j : Int) < z := by omega
      have hv := Hr.out
      rw [List.drop_of_length_le (by omega)] at hv
      have hv2 : (([], false) : H.T × Bool) = (r1, r2) := hv
      injection hv2 with h1 h2
      subst h1 h2
      clear hv
      go_wp2
      go_ret2
      exact ⟨rfl, Hb.out⟩
end Go.Proofs.YtjkinjfbjbehjaaGreatDoor

/- HTTP: THE WALK OVER HttpReads. -/
namespace Go.Proofs.YtjkinjfbjbehjaaGreatDoor
open Go.RowKit
set_option maxRecDepth 100000
set_option linter.unusedVariables false
set_option linter.unusedSimpArgs false

theorem H.readRequest_most (l : H.T) (most : Int) : (H.readRequest l most).1.hs.length ≤ 64 := by
  unfold H.readRequest
  split
  · cases h : H.reqR most l with
    | error e => simp
    | ok p => obtain ⟨q, r⟩ := p; exact H.req_most h
  · simp
theorem H.readResponse_most (l : H.T) (most : Int) : (H.readResponse l most).1.hs.length ≤ 64 := by
  unfold H.readResponse
  split
  · cases h : H.resR most l with
    | error e => simp
    | ok p =>
      obtain ⟨q, r⟩ := p
      unfold H.resR at h
      split at h
      · cases h
      · split at h
        · cases h
        · rename_i hh
          split at h
          · split at h
            · cases h
            · injection h with h; injection h with h1 h2; subst h1
              exact H.headsF_most _ _ _ _ _ hh (by simp)
          · cases h
  · simp
set_option maxHeartbeats 8000000 in
theorem reads_any (w : World) (s : H.T) (most : Int) (hm : -9223372036854775808 ≤ most ∧ most ≤ 9223372036854775807) (hs : List H.Hd) (name : H.T) (ad : Option Addr) (cap : Nat) (hH : Hds w ad hs) (hsh : DShort hs) (hl : s.length ≤ 100000000) (hn : name.length ≤ 100000000) (hmx : hs.length ≤ 100000000) (hT : Tabs w) :
    Calls Tryz.prog 3 #[S s, .int .i64 most, .slice ad hs.length cap, S name] w fun e w' => e = .returned (.bool true) ∧ Below w.heap.size w w' := by
  obtain ⟨q, n, c, hq⟩ : ∃ q n c, H.readRequest s most = (q, n, c) := ⟨_, _, _, rfl⟩
  obtain ⟨p, m, d, hp⟩ : ∃ p m d, H.readResponse s most = (p, m, d) := ⟨_, _, _, rfl⟩
  have hqm : q.hs.length ≤ 64 := by have := H.readRequest_most s most; rw [hq] at this; exact this
  have hpm : p.hs.length ≤ 64 := by have := H.readResponse_most s most; rw [hp] at this; exact this
  have hbig : Big hs := fun h hh => by have := hsh h hh; omega
  have h10 := fun W hT => rd_any W s most hm (by omega) hT q n c hq
  have h11 := fun W => drd_any W s most (by omega) q n c hq
  have h12 := fun W hT => rs_any W s most hm (by omega) hT p m d hp
  have h13 := fun W => drs_any W s most (by omega) p m d hp
  have h14 := fun W (h : Hds W ad hs) => find_any W hs name ad cap h hbig (by omega)
  have h15 := fun W (h : Hds W ad hs) => dfind_any W hs name ad cap h hsh (by omega) (by omega)
  obtain ⟨fv, fb, hf⟩ : ∃ a b, H.findO hs name = (a, b) := ⟨_, _, rfl⟩
  rw [hf] at h14 h15
  simp only at h14 h15
  obtain ⟨ni, hni⟩ : ∃ ni : Int, (n : Int) = ni := ⟨_, rfl⟩
  obtain ⟨mi, hmi⟩ : ∃ mi : Int, (m : Int) = mi := ⟨_, rfl⟩
  have G10 := Lib.hid h10
  have G11 := Lib.hid h11
  have G12 := Lib.hid h12
  have G13 := Lib.hid h13
  have G14 := Lib.hid h14
  have G15 := Lib.hid h15
  have HB0 := Lib.hid (Below.refl w.heap.size w)
  have HT0 := Lib.hid hT
  have HA0 := Lib.hid hH
  have Hqm := Lib.hid hqm
  have Hpm := Lib.hid hpm
  clear h10 h11 h12 h13 h14 h15 hT hH hq hp hf hbig hqm hpm
  go_enter Tryz.func3, Tryz.ntmps3
  go_wp2_with fail
  with_reducible refine (G10.out _ HT0.out).mono ?_
  rintro e v1 ⟨hb, ad1, k1, cap1, rfl, rfl, hd⟩
  obtain ⟨Y1, hY⟩ : ∃ Y, Y = v1.alloc (.cells #[S q.method, S q.target, .slice ad1 q.hs.length cap1, S q.body] 24) := ⟨_, rfl⟩
  have hbY : Below v1.heap.size v1 Y1 := by rw [hY]; exact (Below.refl _ v1).alloc (Nat.le_refl _) _
  have hbb := hb.trans (hbY.mono hb.size)
  have hk : Y1.heap[v1.heap.size]? = some (.cells #[S q.method, S q.target, .slice ad1 q.hs.length cap1, S q.body] 24 (0, 0)) := by rw [hY]; exact blk_new v1 _
  obtain ⟨g1, hg⟩ : ∃ g, v1.heap.size = g := ⟨_, rfl⟩
  have HB1 := Lib.hid (HB0.out.trans (hbb.mono HB0.out.size))
  have HT1 := Lib.hid (HT0.out.under hbb)
  have HA1 := Lib.hid (HA0.out.under hbb)
  clear HB0 HT0 HA0 
  have K1_1 := Lib.hid (hg ▸ hk)
  have D1_1 := Lib.hid (hd.under hbY)
  clear hk hd hbY hbb hb
  go_upto_region 2 with (fail)
  rw [← hY]
  try rw [hg]
  clear hY hg
  go_wp2_with fail
  with_reducible refine (G11.out _).mono ?_
  rintro e v2 ⟨hb, ad2, k2, cap2, rfl, rfl, hd⟩
  obtain ⟨Y2, hY⟩ : ∃ Y, Y = v2.alloc (.cells #[S q.method, S q.target, .slice ad2 q.hs.length cap2, S q.body] 24) := ⟨_, rfl⟩
  have hbY : Below v2.heap.size v2 Y2 := by rw [hY]; exact (Below.refl _ v2).alloc (Nat.le_refl _) _
  have hbb := hb.trans (hbY.mono hb.size)
  have hk : Y2.heap[v2.heap.size]? = some (.cells #[S q.method, S q.target, .slice ad2 q.hs.length cap2, S q.body] 24 (0, 0)) := by rw [hY]; exact blk_new v2 _
  obtain ⟨g2, hg⟩ : ∃ g, v2.heap.size = g := ⟨_, rfl⟩
  have HB2 := Lib.hid (HB1.out.trans (hbb.mono HB1.out.size))
  have HT2 := Lib.hid (HT1.out.under hbb)
  have HA2 := Lib.hid (HA1.out.under hbb)
  have K1_2 := Lib.hid (blk_under K1_1.out hbb)
  have D1_2 := Lib.hid (D1_1.out.under hbb)
  clear HB1 HT1 HA1 K1_1 D1_1
  have K2_2 := Lib.hid (hg ▸ hk)
  have D2_2 := Lib.hid (hd.under hbY)
  clear hk hd hbY hbb hb
  go_upto_region 3 with (fail)
  rw [← hY]
  try rw [hg]
  clear hY hg
  go_wp2_with fail
  with_reducible refine (G12.out _ HT2.out).mono ?_
  rintro e v3 ⟨hb, ad3, k3, cap3, rfl, rfl, hd⟩
  obtain ⟨Y3, hY⟩ : ∃ Y, Y = v3.alloc (.cells #[.int .i64 (p.status : Int), .slice ad3 p.hs.length cap3, S p.body] 29) := ⟨_, rfl⟩
  have hbY : Below v3.heap.size v3 Y3 := by rw [hY]; exact (Below.refl _ v3).alloc (Nat.le_refl _) _
  have hbb := hb.trans (hbY.mono hb.size)
  have hk : Y3.heap[v3.heap.size]? = some (.cells #[.int .i64 (p.status : Int), .slice ad3 p.hs.length cap3, S p.body] 29 (0, 0)) := by rw [hY]; exact blk_new v3 _
  obtain ⟨g3, hg⟩ : ∃ g, v3.heap.size = g := ⟨_, rfl⟩
  have HB3 := Lib.hid (HB2.out.trans (hbb.mono HB2.out.size))
  have HT3 := Lib.hid (HT2.out.under hbb)
  have HA3 := Lib.hid (HA2.out.under hbb)
  have K1_3 := Lib.hid (blk_under K1_2.out hbb)
  have D1_3 := Lib.hid (D1_2.out.under hbb)
  have K2_3 := Lib.hid (blk_under K2_2.out hbb)
  have D2_3 := Lib.hid (D2_2.out.under hbb)
  clear HB2 HT2 HA2 K1_2 D1_2 K2_2 D2_2
  have K3_3 := Lib.hid (hg ▸ hk)
  have D3_3 := Lib.hid (hd.under hbY)
  clear hk hd hbY hbb hb
  go_upto_region 4 with (fail)
  rw [← hY]
  try rw [hg]
  clear hY hg
  go_wp2_with fail
  with_reducible refine (G13.out _).mono ?_
  rintro e v4 ⟨hb, ad4, k4, cap4, rfl, rfl, hd⟩
  obtain ⟨Y4, hY⟩ : ∃ Y, Y = v4.alloc (.cells #[.int .i64 (p.status : Int), .slice ad4 p.hs.length cap4, S p.body] 29) := ⟨_, rfl⟩
  have hbY : Below v4.heap.size v4 Y4 := by rw [hY]; exact (Below.refl _ v4).alloc (Nat.le_refl _) _
  have hbb := hb.trans (hbY.mono hb.size)
  have hk : Y4.heap[v4.heap.size]? = some (.cells #[.int .i64 (p.status : Int), .slice ad4 p.hs.length cap4, S p.body] 29 (0, 0)) := by rw [hY]; exact blk_new v4 _
  obtain ⟨g4, hg⟩ : ∃ g, v4.heap.size = g := ⟨_, rfl⟩
  have HB4 := Lib.hid (HB3.out.trans (hbb.mono HB3.out.size))
  have HT4 := Lib.hid (HT3.out.under hbb)
  have HA4 := Lib.hid (HA3.out.under hbb)
  have K1_4 := Lib.hid (blk_under K1_3.out hbb)
  have D1_4 := Lib.hid (D1_3.out.under hbb)
  have K2_4 := Lib.hid (blk_under K2_3.out hbb)
  have D2_4 := Lib.hid (D2_3.out.under hbb)
  have K3_4 := Lib.hid (blk_under K3_3.out hbb)
  have D3_4 := Lib.hid (D3_3.out.under hbb)
  clear HB3 HT3 HA3 K1_3 D1_3 K2_3 D2_3 K3_3 D3_3
  have K4_4 := Lib.hid (hg ▸ hk)
  have D4_4 := Lib.hid (hd.under hbY)
  clear hk hd hbY hbb hb
  go_upto_region 5 with (fail)
  rw [← hY]
  try rw [hg]
  clear hY hg
  go_wp2_with fail
  with_reducible refine (G14.out _ HA4.out).mono ?_
  rintro e v5 ⟨rfl, hb⟩
  have HB5 := Lib.hid (HB4.out.trans (hb.mono HB4.out.size))
  have HT5 := Lib.hid (HT4.out.under hb)
  have HA5 := Lib.hid (HA4.out.under hb)
  have K1_5 := Lib.hid (blk_under K1_4.out hb)
  have D1_5 := Lib.hid (D1_4.out.under hb)
  have K2_5 := Lib.hid (blk_under K2_4.out hb)
  have D2_5 := Lib.hid (D2_4.out.under hb)
  have K3_5 := Lib.hid (blk_under K3_4.out hb)
  have D3_5 := Lib.hid (D3_4.out.under hb)
  have K4_5 := Lib.hid (blk_under K4_4.out hb)
  have D4_5 := Lib.hid (D4_4.out.under hb)
  clear HB4 HT4 HA4 K1_4 D1_4 K2_4 D2_4 K3_4 D3_4 K4_4 D4_4
  clear hb
  go_wp2_with fail
  with_reducible refine (G15.out _ HA5.out).mono ?_
  rintro e v6 ⟨rfl, hb⟩
  have HB6 := Lib.hid (HB5.out.trans (hb.mono HB5.out.size))
  have HT6 := Lib.hid (HT5.out.under hb)
  have HA6 := Lib.hid (HA5.out.under hb)
  have K1_6 := Lib.hid (blk_under K1_5.out hb)
  have D1_6 := Lib.hid (D1_5.out.under hb)
  have K2_6 := Lib.hid (blk_under K2_5.out hb)
  have D2_6 := Lib.hid (D2_5.out.under hb)
  have K3_6 := Lib.hid (blk_under K3_5.out hb)
  have D3_6 := Lib.hid (D3_5.out.under hb)
  have K4_6 := Lib.hid (blk_under K4_5.out hb)
  have D4_6 := Lib.hid (D4_5.out.under hb)
  clear HB5 HT5 HA5 K1_5 D1_5 K2_5 D2_5 K3_5 D3_5 K4_5 D4_5
  clear hb
  go_wp2_with fail
  refine (lives_any _ HT6.out).mono ?_
  rintro e v7 ⟨rfl, hb⟩
  have HB7 := Lib.hid (HB6.out.trans (hb.mono HB6.out.size))
  have HT7 := Lib.hid (HT6.out.under hb)
  have HA7 := Lib.hid (HA6.out.under hb)
  have K1_7 := Lib.hid (blk_under K1_6.out hb)
  have D1_7 := Lib.hid (D1_6.out.under hb)
  have K2_7 := Lib.hid (blk_under K2_6.out hb)
  have D2_7 := Lib.hid (D2_6.out.under hb)
  have K3_7 := Lib.hid (blk_under K3_6.out hb)
  have D3_7 := Lib.hid (D3_6.out.under hb)
  have K4_7 := Lib.hid (blk_under K4_6.out hb)
  have D4_7 := Lib.hid (D4_6.out.under hb)
  clear HB6 HT6 HA6 K1_6 D1_6 K2_6 D2_6 K3_6 D3_6 K4_6 D4_6
  clear hb
  obtain ⟨a0, a1, a2, a3⟩ := box4 K1_7.out
  obtain ⟨b0, b1, b2, b3⟩ := box4 K2_7.out
  have la := blk_lt K1_7.out
  have lb := blk_lt K2_7.out
  have h17 := sameReq_any v7 q.method q.target q.body q.hs ad1 ad2 _ _ cap1 cap2 rfl rfl Hqm.out D1_7.out D2_7.out
  have H17 := Lib.hid h17
  clear h17

  go_wp2_with fail
  with_reducible refine H17.out.mono ?_
  rintro e v8 ⟨rfl, hb⟩
  clear a0 a1 a2 a3 b0 b1 b2 b3 la lb
  have HB8 := Lib.hid (HB7.out.trans (hb.mono HB7.out.size))
  have HT8 := Lib.hid (HT7.out.under hb)
  have HA8 := Lib.hid (HA7.out.under hb)
  have K1_8 := Lib.hid (blk_under K1_7.out hb)
  have D1_8 := Lib.hid (D1_7.out.under hb)
  have K2_8 := Lib.hid (blk_under K2_7.out hb)
  have D2_8 := Lib.hid (D2_7.out.under hb)
  have K3_8 := Lib.hid (blk_under K3_7.out hb)
  have D3_8 := Lib.hid (D3_7.out.under hb)
  have K4_8 := Lib.hid (blk_under K4_7.out hb)
  have D4_8 := Lib.hid (D4_7.out.under hb)
  clear HB7 HT7 HA7 K1_7 D1_7 K2_7 D2_7 K3_7 D3_7 K4_7 D4_7
  obtain ⟨a0, a1, a2⟩ := box3 K3_8.out
  obtain ⟨b0, b1, b2⟩ := box3 K4_8.out
  have la := blk_lt K3_8.out
  have lb := blk_lt K4_8.out
  have h18 := sameRes_any v8 (p.status : Int) p.body p.hs ad3 ad4 _ _ cap3 cap4 rfl rfl Hpm.out D3_8.out D4_8.out
  have H18 := Lib.hid h18
  clear h18 hb
  go_wp2_with fail
  with_reducible refine H18.out.mono ?_
  rintro e v9 ⟨rfl, hb⟩
  have HB9 := Lib.hid (HB8.out.trans (hb.mono HB8.out.size))
  clear hb
  go_wp2
  go_ret
  exact ⟨rfl, HB9.out⟩
end Go.Proofs.YtjkinjfbjbehjaaGreatDoor

/- HTTP: HEADS THAT CAME IN, WITH THEIR BULK; HttpReads at what came in. -/
namespace Go.Proofs.YtjkinjfbjbehjaaGreatDoor
open Go.RowKit Go.ChangeShapes Go.WideShapes Go.Deep Joins
set_option linter.unusedVariables false
set_option linter.unusedSimpArgs false
set_option maxRecDepth 100000
section
variable {E : Type} {enc : TypeId × Value → E} {w : World}
theorem bulk_mem : ∀ {l : List (DataW E)} {d : DataW E}, d ∈ l → Rows.uptoBulk d ≤ Rows.uptoBulkAll l
  | a :: t, d, h => by
    rw [Rows.uptoBulkAll]
    rcases List.mem_cons.1 h with q | q
    · subst q; omega
    · have := bulk_mem q; omega
theorem bulk_pos (d : DataW E) : 1 ≤ Rows.uptoBulk d := by
  cases d with
  | lit l => cases l <;> simp [Rows.uptoBulk]
  | _ => simp [Rows.uptoBulk]
theorem bulk_len : ∀ (l : List (DataW E)), l.length ≤ Rows.uptoBulkAll l
  | [] => by simp
  | a :: t => by
    rw [Rows.uptoBulkAll, List.length_cons]
    have := bulk_len t
    have := bulk_pos a
    omega
theorem open_head_b {base : Nat} {spare : Nat → Bool} {held : Bool} {fuel : Nat} {cs : List Value} {x : DataW E × List MemPlace} (h : DataW.trod enc Tryz.prog w base spare held fuel 73 cs = some x) :
    ∃ f : H.Hd, (f.name.length ≤ Rows.uptoBulk x.1 ∧ f.value.length ≤ Rows.uptoBulk x.1) ∧ cs = [S f.name, S f.value] := by
  obtain ⟨y0, y1, n, rfl, hlen, h0, h1⟩ := trod_struct2 Tryz.underlying73 h
  rw [Tryz.cells73] at hlen
  obtain ⟨c0, c1, rfl⟩ := hlist2 hlen
  simp [Tryz.cells9'] at h0 h1
  obtain ⟨s0, e0, hy0, w0⟩ := DataW.trod_string Tryz.underlying9 h0
  obtain ⟨s1, e1, hy1, w1⟩ := DataW.trod_string Tryz.underlying9 h1
  simp only [List.cons.injEq, and_true] at e0 e1
  subst e0 e1
  subst hy0 hy1
  refine ⟨⟨s0.data.toList, s1.data.toList⟩, ⟨?_, ?_⟩, ?_⟩
  · simp only [Rows.uptoBulk, Rows.uptoBulkAll]; omega
  · simp only [Rows.uptoBulk, Rows.uptoBulkAll]; omega
  · show [Value.string s0, Value.string s1] = [S s0.data.toList, S s1.data.toList]
    rw [show (S s0.data.toList : Value) = .string s0 from congrArg Value.string (S_data s0), show (S s1.data.toList : Value) = .string s1 from congrArg Value.string (S_data s1)]
theorem open_heads_bulk {r : Reach} {b0 : Nat} {v : Value} {d : DataW E} {p : List MemPlace} (hv : Value.okWide Tryz.prog w r b0 22 v) (h : DataW.Trod enc Tryz.prog w 0 (fun _ => true) true 22 v d p) :
    ∃ ad hs cap, v = .slice ad hs.length cap ∧ Hds w ad hs ∧ hs.length ≤ Rows.uptoBulk d ∧ ∀ f ∈ hs, f.name.length ≤ Rows.uptoBulk d ∧ f.value.length ≤ Rows.uptoBulk d := by
  obtain ⟨ad0, len0, cap0, rfl⟩ := okWide_slice Tryz.underlying22 hv
  obtain ⟨fuel, hf⟩ := h
  rcases Deep.open_slice Tryz.underlying22 hf with ⟨hcs, _⟩ | ⟨a, len, cap, m, n, D, Pl, hcs, _, hl, hm, hmm, hx, hi⟩
  · simp [Value.cells] at hcs
    obtain ⟨rfl, rfl, rfl⟩ := hcs
    exact ⟨none, [], 0, rfl, fun h => absurd rfl h, by simp, fun f hf => by cases hf⟩
  · simp [Value.cells] at hcs
    obtain ⟨rfl, rfl, rfl⟩ := hcs
    simp only [if_true] at hmm
    subst hmm
    rw [Tryz.cells73] at hi
    injection hx with hd _
    subst hd
    have hbl : len0 ≤ Rows.uptoBulk (.slice ((List.range len0).map D) ((List.range (m - len0)).map fun j => D (len0 + j))) := by
      rw [Rows.uptoBulk]
      have := bulk_len ((List.range len0).map D)
      simp only [List.length_map, List.length_range] at this
      omega
    by_cases h0 : len0 = 0
    · subst h0
      exact ⟨_, [], _, rfl, fun h => absurd rfl h, by simp, fun f hf => by cases hf⟩
    obtain ⟨b, off, spot⟩ := a
    have hs : spot = none := by
      obtain ⟨cs', hc, _⟩ := hi 0 (by omega)
      obtain ⟨_, hlc, hcell⟩ := World.cells?_some hc
      have hc0 := hcell 0 (by omega)
      have he : cs'[0]? = some (cs'[0]'(by omega)) := by simp
      rw [he] at hc0
      simpa [Addr.add] using World.cell?_spot hc0
    subst hs
    have hP : ∀ i, i < len0 → ∃ f : H.Hd, (f.name.length ≤ Rows.uptoBulk (D i) ∧ f.value.length ≤ Rows.uptoBulk (D i)) ∧ b < w.heap.size ∧ w.cell? ⟨b, off + i * 2, none⟩ = some (S f.name) ∧ w.cell? ⟨b, off + i * 2 + 1, none⟩ = some (S f.value) := by
      intro i hil
      obtain ⟨cs', hc, ht⟩ := hi i (by omega)
      obtain ⟨f, hfit, rfl⟩ := open_head_b ht
      obtain ⟨_, _, hcell⟩ := World.cells?_some hc
      have hc0 := hcell 0 (by omega)
      have hc1 := hcell 1 (by omega)
      simp only [Addr.add_lit] at hc0 hc1
      exact ⟨f, hfit, World.block_lt_of_cell? w _ hc0, hc0, hc1⟩
    obtain ⟨xs, hfl, hfs⟩ := hlist_choose len0 hP
    refine ⟨_, xs, _, by rw [hfl], fun hne => ?_, by omega, fun f hf => ?_⟩
    · have h0 : 0 < xs.length := List.length_pos_iff.2 hne
      obtain ⟨_, hb, _⟩ := hfs 0 xs[0] (by simp)
      exact ⟨b, off, rfl, hb, fun i f hf => (hfs i f hf).2.2⟩
    · obtain ⟨i, hi'⟩ := List.getElem?_of_mem hf
      have hil : i < len0 := by have := (List.getElem?_eq_some_iff.1 hi').1; omega
      have h1 := (hfs i f hi').1
      have h2 := bulk_mem (E := E) (List.mem_map.2 ⟨i, List.mem_range.2 hil, rfl⟩ : D i ∈ (List.range len0).map D)
      rw [Rows.uptoBulk]
      omega
end
theorem lawReads_any (w : World) (s : ByteArray) (most : Int) (hm : -9223372036854775808 ≤ most ∧ most ≤ 9223372036854775807) (hs : List H.Hd) (name : ByteArray) (ad : Option Addr) (cap : Nat) (hH : Hds w ad hs) (B : Nat) (hB : B ≤ 1048576) (hl1 : hs.length ≤ B) (hl2 : ∀ f ∈ hs, f.name.length ≤ B ∧ f.value.length ≤ B) (h1 : s.size ≤ 1048576) (h2 : name.size ≤ 1048576) (hT : Tabs w) :
    Calls Tryz.prog 3 #[.string s, .int .i64 most, .slice ad hs.length cap, .string name] w fun e w' => e = .returned (.bool true) ∧ Below w.heap.size w w' := by
  obtain ⟨l, rfl⟩ : ∃ l : H.T, s = ⟨l.toArray⟩ := ⟨s.data.toList, (S_data s).symm⟩
  obtain ⟨k, rfl⟩ : ∃ k : H.T, name = ⟨k.toArray⟩ := ⟨name.data.toList, (S_data name).symm⟩
  rw [S_size] at h1 h2
  exact reads_any w l most hm hs k ad cap hH (fun f hf => by have := hl2 f hf; omega) (by omega) (by omega) (by omega) hT
end Go.Proofs.YtjkinjfbjbehjaaGreatDoor
