/- HTTP: THE DOCUMENT'S OWN readHeads. -/
import Derived.Test.YtjkinjfbjbehjaaGreatDoorGva
import Derived.Lib.BufferRead
namespace Go.Proofs.YtjkinjfbjbehjaaGreatDoor
open Go.RowKit
set_option maxRecDepth 100000
set_option linter.unusedVariables false
set_option linter.unusedSimpArgs false

/-- heads that are none of framing -/
def H.plain (hs : List H.Hd) : List H.Hd := hs.filter (fun h => !H.framing h.name)
def H.rdF : Nat → List H.Hd → H.T → H.R (List H.Hd)
  | 0, _, _ => .error 0
  | n + 1, acc, l =>
    match H.line l with
    | .error e => .error e
    | .ok (t, r) =>
      if t = [] then .ok (acc, r)
      else match H.head t with
        | .error e => .error e
        | .ok h => if 64 < (H.plain (acc ++ [h])).length then .error 4 else H.rdF n (acc ++ [h]) r
/-- all of them, apart -/
def H.frOf (hs : List H.Hd) : H.Fr := ⟨H.plain hs, (hs.filter (fun h => H.alike h.name H.lengthN)).map H.Hd.value, (hs.filter (fun h => H.alike h.name H.codingN)).map H.Hd.value⟩
theorem H.not_both (n : H.T) (h : H.alike n H.lengthN = true) : H.alike n H.codingN = false := by
  cases h2 : H.alike n H.codingN with
  | false => rfl
  | true =>
    have a := H.alike_len _ _ h
    have b := H.alike_len _ _ h2
    rw [a] at b
    exact absurd b (by decide)
theorem H.frOf_add (acc : List H.Hd) (h : H.Hd) (hle : (H.plain acc).length ≤ 64) : H.addHead (H.frOf acc) h = if 64 < (H.plain (acc ++ [h])).length then .error 4 else .ok (H.frOf (acc ++ [h])) := by
  have e1 : H.plain (acc ++ [h]) = H.plain acc ++ (if H.framing h.name then [] else [h]) := by
    unfold H.plain
    rw [List.filter_append]
    cases hf : H.framing h.name <;> simp [hf]
  unfold H.addHead
  by_cases h1 : H.alike h.name H.lengthN = true
  · have h2 := H.not_both _ h1
    have hf : H.framing h.name = true := by unfold H.framing; rw [h1]; rfl
    rw [if_pos h1, e1, if_pos hf, List.append_nil, if_neg (by omega)]
    unfold H.frOf
    rw [e1, if_pos hf, List.append_nil]
    simp [List.filter_append, h1, h2]
  · have h1' : H.alike h.name H.lengthN = false := by simpa using h1
    rw [if_neg h1]
    by_cases h2 : H.alike h.name H.codingN = true
    · have hf : H.framing h.name = true := by unfold H.framing; rw [h2]; simp
      rw [if_pos h2, e1, if_pos hf, List.append_nil, if_neg (by omega)]
      unfold H.frOf
      rw [e1, if_pos hf, List.append_nil]
      simp [List.filter_append, h1', h2]
    · have h2' : H.alike h.name H.codingN = false := by simpa using h2
      have hf : H.framing h.name = false := by unfold H.framing; rw [h1', h2']; rfl
      have e2 : (if H.framing h.name then [] else [h]) = [h] := if_neg (by rw [hf]; decide)
      rw [e2] at e1
      rw [if_neg h2, e1]
      show (if (H.plain acc).length < 64 then _ else _) = _
      by_cases h3 : (H.plain acc).length < 64
      · rw [if_pos h3, if_neg (by simp; omega)]
        unfold H.frOf
        rw [e1]
        simp [List.filter_append, h1', h2']
      · rw [if_neg h3, if_pos (by simp; omega)]
theorem H.rdF_heads : ∀ (n : Nat) (acc : List H.Hd) (l : H.T), (H.plain acc).length ≤ 64 → H.headsF n (H.frOf acc) l = match H.rdF n acc l with | .error e => .error e | .ok (hs, r) => .ok (H.frOf hs, r)
  | 0, _, _, _ => rfl
  | n + 1, acc, l, hle => by
    simp only [H.headsF, H.rdF]
    cases H.line l with
    | error e => rfl
    | ok p =>
      obtain ⟨t, r⟩ := p
      simp only
      by_cases ht : t = []
      · rw [if_pos ht, if_pos ht]
      · rw [if_neg ht, if_neg ht]
        cases H.head t with
        | error e => rfl
        | ok h =>
          simp only
          rw [H.frOf_add acc h hle]
          by_cases h6 : 64 < (H.plain (acc ++ [h])).length
          · rw [if_pos h6, if_pos h6]
          · rw [if_neg h6, if_neg h6]
            exact H.rdF_heads n (acc ++ [h]) r (by omega)
def H.rd (l : H.T) : H.R (List H.Hd) := H.rdF (l.length + 1) [] l
theorem H.rd_heads (l : H.T) : H.heads l = match H.rd l with | .error e => .error e | .ok (hs, r) => .ok (H.frOf hs, r) := H.rdF_heads _ [] l (by simp [H.plain])
theorem H.rdF_len : ∀ (n : Nat) (acc : List H.Hd) (l : H.T) (hs : List H.Hd) (r : H.T), H.rdF n acc l = .ok (hs, r) → r.length < l.length
  | 0, _, _, _, _, h => by cases h
  | n + 1, acc, l, hs, r, h => by
    simp only [H.rdF] at h
    cases hl : H.line l with
    | error e => rw [hl] at h; cases h
    | ok p =>
      obtain ⟨t, r1⟩ := p
      have hlen := H.line_len hl
      rw [hl] at h
      simp only at h
      split at h
      · injection h with h; injection h with _ h; rw [← h]; omega
      · split at h
        · cases h
        · split at h
          · cases h
          · have := H.rdF_len n _ r1 hs r h; omega
theorem drop_len (l : H.T) (m : Nat) : l.drop m = l.drop (l.length - (l.drop m).length) := by
  rw [List.length_drop]
  by_cases h : m ≤ l.length
  · congr 1; omega
  · rw [List.drop_of_length_le (by omega), List.drop_of_length_le (by omega)]
theorem line_drop {l t r : H.T} (h : H.line l = .ok (t, r)) : r = l.drop (l.length - r.length) := by
  unfold H.line at h
  simp only at h
  split at h
  · cases h
  · split at h
    · cases h
    · split at h
      · injection h with h; injection h with _ h
        rw [← h]
        exact drop_len l _
      · cases h
/-- what readHeads hands out -/
def RdD (w : World) (B : Nat) (l : H.T) (r : H.R (List H.Hd)) (e : Ending) : Prop := match r with
  | .ok (hs, r) => ∃ ad cap, e = .returned (.tuple #[.slice ad hs.length cap, .int .i64 ((l.length - r.length : Nat) : Int), .int .i64 0]) ∧ HRow w B (.slice ad hs.length cap) hs
  | .error c => e = .returned (.tuple #[.slice none 0 0, .int .i64 0, .int .i64 c])
theorem row_put {w W W2 : World} {v v' : Value} {o : Obj} {hs : List H.Hd} {s : H.Hd} (hv : HRow W w.heap.size v hs) (hb : Below w.heap.size w W)
    (h1 : W2.ownsRow w.heap.size 73 2 v' (hs.length + 1) (hs.flatMap hcells ++ [S s.name, S s.value])) (h2 : (W.alloc o).grownBy W2 v.ownBlock) : HRow W2 w.heap.size v' (hs ++ [s]) ∧ Below w.heap.size w W2 := by
  have hal : Below W.heap.size W (W.alloc o) := (Below.refl _ W).alloc (Nat.le_refl _) _
  have hbA := hb.trans (hal.mono hb.size)
  refine ⟨?_, ?_⟩
  · unfold HRow
    rw [List.length_append, List.flatMap_append, List.flatMap_singleton]
    exact h1
  · refine ⟨h2.os.trans hbA.os, h2.tape.trans hbA.tape, h2.output.trans hbA.output, Nat.le_trans hbA.size h2.size, fun j hj => ?_⟩
    refine (h2.block j (Nat.lt_of_lt_of_le hj hbA.size) (fun e => ?_)).trans (hbA.block j hj)
    have := (own_lt hv j e.symm).1
    omega
set_option maxHeartbeats 8000000 in
theorem dreadHeads_any (w : World) (l : H.T) (hl : l.length ≤ 1000000000) : Calls Tryz.prog 65 #[S l] w fun e w' => RdD w' w.heap.size l (H.rd l) e ∧ Below w.heap.size w w' := by
  obtain ⟨i0, hi0, hz0, hz1, hz2⟩ := info_parts Tryz.info73
  obtain ⟨z, hz⟩ : ∃ z : Int, ((l.length : Nat) : Int) = z := ⟨_, rfl⟩
  have hzl : z ≤ 1000000000 := by omega
  obtain ⟨R, hR⟩ : ∃ R, H.rd l = R := ⟨_, rfl⟩
  have HR := Lib.hid hR
  rw [hR]
  clear hR
  go_enter Tryz.func65, Tryz.ntmps65
  go_wp2
  go_loopw [5, 6, 7] (fun v u c wr => ∃ (n at_ : Nat) (acc : List H.Hd), u = .int .i64 (at_ : Int) ∧ at_ ≤ l.length ∧ c = .int .i64 (((H.plain acc).length : Nat) : Int) ∧ HRow wr w.heap.size v acc ∧ acc.length ≤ at_ ∧ H.rdF n acc (l.drop at_) = R ∧ l.length - at_ < n ∧ (H.plain acc).length ≤ 64 ∧ Below w.heap.size w wr) (fun v u c _ => l.length - (intOf u).toNat)
  case atStart => exact ⟨l.length + 1, 0, [], rfl, Nat.zero_le _, rfl, hrow_nil _ _, by simp, by rw [List.drop_zero]; exact HR.out, by omega, by simp [H.plain], Below.refl _ _⟩
  case round =>
    obtain ⟨n, at_, acc, rfl, hat, rfl, hrow, hal, hrd, hn, hpl, hb⟩ := hrel
    have Hrow := Lib.hid hrow
    have Hb := Lib.hid hb
    obtain ⟨n, rfl⟩ : ∃ m, n = m + 1 := ⟨n - 1, by omega⟩
    have Hrd := Lib.hid hrd
    obtain ⟨ad, cap, rfl⟩ := row_form hrow
    clear hrow hb hrd
    have e1 : (⟨l.toArray⟩ : ByteArray).extract at_ l.length = ⟨(l.drop at_).toArray⟩ := ext_drop l at_
    have b1 : (0 : Int) ≤ (at_ : Int) := by omega
    have b2 : (at_ : Int) ≤ z := by omega
    have hline := fun W => csy (dline_any W (l.drop at_) (by rw [List.length_drop]; omega))
    obtain ⟨L, hL⟩ : ∃ L, l.drop at_ = L := ⟨_, rfl⟩
    have hLl : L.length = l.length - at_ := by rw [← hL, List.length_drop]
    rw [hL] at hline e1 Hrd
    have HL := Lib.hid hL
    clear hL
    have Hst := Hrd.out
    simp only [H.rdF] at Hst
    cases hq : H.line L with
    | error c =>
      have hD : H.lineD L = ([], 0, c) := by unfold H.lineD; rw [hq]
      rw [hD] at hline
      rw [hq] at Hst
      simp only at Hst
      have hc := H.line_ne hq
      have hc' : (c == 0) = false := by simpa using hc
      subst Hst
      clear hD hq
      go_wp2_with (refine (hline _).mono ?_; rintro e w1 ⟨rfl, rfl⟩)
      go_ret3
      exact ⟨rfl, Hb.out⟩
    | ok p =>
      obtain ⟨t, r⟩ := p
      have hlen := H.line_len hq
      have hD : H.lineD L = (t, L.length - r.length, 0) := by unfold H.lineD; rw [hq]
      rw [hD] at hline
      rw [hq] at Hst
      simp only at Hst
      obtain ⟨k, hk⟩ : ∃ k : Nat, L.length - r.length = k := ⟨_, rfl⟩
      rw [hk] at hline
      have hdr := line_drop hq
      rw [hk] at hdr
      have hw1 : IntKind.i64.wrap ((at_ : Int) + (k : Int)) = (at_ : Int) + (k : Int) := by rw [IntKind.wrap_i64]; omega
      have HLr := Lib.hid (show l.drop (at_ + k) = r from by rw [hdr, ← HL.out, List.drop_drop])
      clear hD hq hdr
      by_cases ht : t = []
      · subst ht
        rw [if_pos rfl] at Hst
        subst Hst
        have hfin : ((at_ : Int) + (k : Int)) = ((l.length - r.length : Nat) : Int) := by omega
        have Hfin := Lib.hid hfin
        clear hfin
        go_wp2_with (refine (hline _).mono ?_; rintro e w1 ⟨rfl, rfl⟩)
        go_ret3
        exact ⟨⟨ad, cap, by rw [← Hfin.out]; rfl, Hrow.out⟩, Hb.out⟩
      · rw [if_neg ht] at Hst
        have hie : t.isEmpty = false := by cases t with | nil => exact absurd rfl ht | cons => rfl
        have hhd := dhead_any wr t (by omega)
        have HSt := Lib.hid Hst
        clear Hst
        go_wp2_with (first | (go_at_call 30; refine (hline _).mono ?_; rintro e w1 ⟨rfl, rfl⟩) | fail)
        refine hhd.mono ?_
        rintro e w2 ⟨⟨h, ok, rfl, hhq, hnl, hvl⟩, hb2⟩
        have Hst := HSt.out
        rw [hhq] at Hst
        obtain ⟨Y, hY⟩ : ∃ Y, Y = w2.alloc (.cells #[S h.name, S h.value] 73) := ⟨_, rfl⟩
        have hyk : Y.heap[w2.heap.size]? = some (.cells #[S h.name, S h.value] 73 (0, 0)) := by rw [hY]; exact blk_new w2 _
        have hbY : Below w2.heap.size w2 Y := by rw [hY]; exact (Below.refl _ w2).alloc (Nat.le_refl _) _
        have hbb := hb2.trans (hbY.mono hb2.size)
        have HbY := Lib.hid (Hb.out.trans (hbb.mono Hb.out.size))
        have HrowY := Lib.hid (show HRow Y w.heap.size (.slice ad acc.length cap) acc from row_below Hrow.out hbb)
        obtain ⟨c0, c1⟩ := box2 hyk
        have lY := blk_lt hyk
        have Hyk := Lib.hid hyk
        clear hhd hb2 hbY hbb hyk hhq
        go_upto_region 10 with (fail)
        rw [← hY]
        clear hY
        cases ok with
        | false =>
          simp only [Bool.false_eq_true, if_false] at Hst
          subst Hst
          go_wp2
          go_ret3
          exact ⟨rfl, HbY.out⟩
        | true =>
          simp only [if_true] at Hst
          have hfr := fun W => framing_any W h.name (by omega)
          have hp1 : H.plain (acc ++ [h]) = H.plain acc ++ (if H.framing h.name then [] else [h]) := by
            unfold H.plain
            rw [List.filter_append]
            cases hf : H.framing h.name <;> simp [hf]
          obtain ⟨cn, hcn⟩ : ∃ cn : Nat, (H.plain (acc ++ [h])).length = cn := ⟨_, rfl⟩
          rw [hcn] at Hst
          have hw2 : IntKind.i64.wrap ((((H.plain acc).length : Nat) : Int) + 1) = (((H.plain acc).length : Nat) : Int) + 1 := by rw [IntKind.wrap_i64]; omega
          cases hf : H.framing h.name with
          | true =>
            rw [hf] at hfr hp1
            have hcn2 : (H.plain acc).length = cn := by rw [← hcn, hp1]; simp
            rw [if_neg (by omega)] at Hst
            have HSt2 := Lib.hid Hst
            have h64 : ¬ (64 : Int) < (((H.plain acc).length : Nat) : Int) := by omega
            have Hcn := Lib.hid (hcn.trans hcn2.symm)
            clear hp1 hcn hcn2 hf Hst
            go_wp2_with fail
            refine (hfr _).mono ?_
            rintro e w3 ⟨rfl, hb3⟩
            have HbZ := Lib.hid (HbY.out.trans (hb3.mono HbY.out.size))
            have HrowZ := Lib.hid (show HRow w3 w.heap.size (.slice ad acc.length cap) acc from row_below HrowY.out hb3)
            obtain ⟨d0, d1⟩ := box2 (blk_under Hyk.out hb3)
            have lZ := blk_lt (blk_under Hyk.out hb3)
            have Hown := Lib.hid (World.ownsRow.alloc HrowZ.out (.cells #[S h.name, S h.value] 73))
            have Hnews := Lib.hid (show ∀ j u, [S h.name, S h.value][j]? = some u → (w3.alloc (.cells #[S h.name, S h.value] 73)).cell? ((⟨w3.heap.size, 0, none⟩ : Addr).add j) = some u from fun j u hj => by
              rw [Addr.add_lit, Nat.zero_add, cell_of_row _ w3.heap.size j _ 73 (0, 0) (blk_new w3 _)]
              simpa using hj)
            have Hones := Lib.hid (show ∀ u ∈ [S h.name, S h.value], u.oneCell' = true from fun u hu => by simp at hu; rcases hu with rfl | rfl <;> rfl)
            have hBsz := HbZ.out.size
            obtain ⟨uv, hu⟩ : ∃ uv, uv = Value.slice ad acc.length cap := ⟨_, rfl⟩
            have HrowU := Lib.hid (hu ▸ HrowZ.out)
            replace Hown := Lib.hid (hu ▸ Hown.out)
            clear hb3 c0 c1 lY HbY HrowY HrowZ
            rw [← hu]
            clear hu
            go_wp2_with (at_builtin; refine wpList_append_own_at _ rfl _ _ 22 rfl w.heap.size 73 i0 _ 2 32 Tryz.underlying22 hi0 hz0 hz1 hz2 rfl (by decide) _ _ _ rfl Hown.out ⟨w3.heap.size, 0, none⟩ 1 1 [S h.name, S h.value] rfl rfl Hnews.out Hones.out (by simp only [maxLen]; omega) (by omega) (by simp; omega) ?_)
            intro v' w5 a1 a2 _ a4
            obtain ⟨r1, r2⟩ := row_put HrowU.out HbZ.out a1 a2
            have HR5 := Lib.hid r1
            have HB5 := Lib.hid r2
            clear a1 a2 a4 r1 r2 d0 d1 lZ Hown Hnews Hones HrowU HbZ
            go_wp2
            go_roundw
            case rel => exact ⟨n, at_ + k, acc ++ [h], by go_num, by omega, by rw [Hcn.out], HR5.out, by rw [List.length_append]; simp; omega, by rw [HLr.out]; exact HSt2.out, by omega, by have := Hcn.out; omega, HB5.out⟩
            case measure => simp [intOf]; omega
          | false =>
            rw [hf] at hfr hp1
            have hcn2 : (H.plain acc).length + 1 = cn := by rw [← hcn, hp1]; simp
            clear hp1 hf
            by_cases h64 : 64 < cn
            · rw [if_pos h64] at Hst
              subst Hst
              have h64' : (64 : Int) < (((H.plain acc).length : Nat) : Int) + 1 := by omega
              clear hcn hcn2
              go_wp2_with (refine (hfr _).mono ?_; rintro e w3 ⟨rfl, hb3⟩)
              go_ret3
              exact ⟨rfl, HbY.out.trans (hb3.mono HbY.out.size)⟩
            · rw [if_neg h64] at Hst
              have HSt2 := Lib.hid Hst
              have h64' : ¬ (64 : Int) < (((H.plain acc).length : Nat) : Int) + 1 := by omega
              have Hcn := Lib.hid (show (H.plain (acc ++ [h])).length = (H.plain acc).length + 1 from by omega)
              clear hcn hcn2 Hst
              go_wp2_with fail
              refine (hfr _).mono ?_
              rintro e w3 ⟨rfl, hb3⟩
              have HbZ := Lib.hid (HbY.out.trans (hb3.mono HbY.out.size))
              have HrowZ := Lib.hid (show HRow w3 w.heap.size (.slice ad acc.length cap) acc from row_below HrowY.out hb3)
              obtain ⟨d0, d1⟩ := box2 (blk_under Hyk.out hb3)
              have lZ := blk_lt (blk_under Hyk.out hb3)
              have Hown := Lib.hid (World.ownsRow.alloc HrowZ.out (.cells #[S h.name, S h.value] 73))
              have Hnews := Lib.hid (show ∀ j u, [S h.name, S h.value][j]? = some u → (w3.alloc (.cells #[S h.name, S h.value] 73)).cell? ((⟨w3.heap.size, 0, none⟩ : Addr).add j) = some u from fun j u hj => by
                rw [Addr.add_lit, Nat.zero_add, cell_of_row _ w3.heap.size j _ 73 (0, 0) (blk_new w3 _)]
                simpa using hj)
              have Hones := Lib.hid (show ∀ u ∈ [S h.name, S h.value], u.oneCell' = true from fun u hu => by simp at hu; rcases hu with rfl | rfl <;> rfl)
              have hBsz := HbZ.out.size
              obtain ⟨uv, hu⟩ : ∃ uv, uv = Value.slice ad acc.length cap := ⟨_, rfl⟩
              have HrowU := Lib.hid (hu ▸ HrowZ.out)
              replace Hown := Lib.hid (hu ▸ Hown.out)
              clear hb3 c0 c1 lY HbY HrowY HrowZ
              rw [← hu]
              clear hu
              go_wp2_with (at_builtin; refine wpList_append_own_at _ rfl _ _ 22 rfl w.heap.size 73 i0 _ 2 32 Tryz.underlying22 hi0 hz0 hz1 hz2 rfl (by decide) _ _ _ rfl Hown.out ⟨w3.heap.size, 0, none⟩ 1 1 [S h.name, S h.value] rfl rfl Hnews.out Hones.out (by simp only [maxLen]; omega) (by omega) (by simp; omega) ?_)
              intro v' w5 a1 a2 _ a4
              obtain ⟨r1, r2⟩ := row_put HrowU.out HbZ.out a1 a2
              have HR5 := Lib.hid r1
              have HB5 := Lib.hid r2
              clear a1 a2 a4 r1 r2 d0 d1 lZ Hown Hnews Hones HrowU HbZ
              go_wp2
              go_roundw
              case rel => exact ⟨n, at_ + k, acc ++ [h], by go_num, by omega, by rw [Hcn.out]; go_num, HR5.out, by rw [List.length_append]; simp; omega, by rw [HLr.out]; exact HSt2.out, by omega, by have := Hcn.out; omega, HB5.out⟩
              case measure => simp [intOf]; omega
end Go.Proofs.YtjkinjfbjbehjaaGreatDoor

/- HTTP: THE DOCUMENT'S OWN size. -/
namespace Go.Proofs.YtjkinjfbjbehjaaGreatDoor
open Go.RowKit
set_option maxRecDepth 100000
set_option linter.unusedVariables false
set_option linter.unusedSimpArgs false

/-- what the document's size answers -/
def SizeD (l : H.T) (e : Ending) : Prop := ∃ (n : Nat) (ok : Bool), e = .returned (.tuple #[.int .i64 (n : Int), .bool ok]) ∧ n < 4294967296 ∧ H.whole16 (Lib.cut l [59]).1 = (if ok then .ok n else .error 13)
theorem H.hexF_app : ∀ (a b : H.T) (n m : Nat), H.hexF n a = some m → H.hexF n (a ++ b) = H.hexF m b
  | [], b, n, m, h => by simp only [H.hexF, Option.some.injEq] at h; rw [← h]; rfl
  | c :: t, b, n, m, h => by
    simp only [H.hexF, List.cons_append] at h ⊢
    cases hc : H.hexv c with
    | none => rw [hc] at h; cases h
    | some d =>
      rw [hc] at h
      exact H.hexF_app t b _ m h
theorem H.hexF_no59 : ∀ (a : H.T) (n m : Nat), H.hexF n a = some m → (59 : UInt8) ∉ a
  | [], _, _, _ => by simp
  | c :: t, n, m, h => by
    simp only [H.hexF] at h
    cases hc : H.hexv c with
    | none => rw [hc] at h; cases h
    | some d =>
      rw [hc] at h
      have := H.hexF_no59 t _ m h
      intro hm
      rcases List.mem_cons.1 hm with e | e
      · rw [← e] at hc
        have h0 : H.hexv 59 = none := by decide
        rw [h0] at hc; cases hc
      · exact this e
/-- the low letter of a byte, its hexadecimal value -/
theorem H.hex_byte : ∀ c : Fin 256, (H.hexN c.1 = if H.digit (H.small c.1) then some (H.small c.1 - 48) else if 97 ≤ H.small c.1 ∧ H.small c.1 ≤ 102 then some (H.small c.1 - 97 + 10) else none) := by decide +kernel
theorem H.cut1 (l : H.T) (j : Nat) (hj : j < l.length) (h : (59 : UInt8) ∉ l.take j) (h2 : l[j] = 59) : (Lib.cut l [59]).1 = l.take j := by
  have e : l = l.take j ++ 59 :: l.drop (j + 1) := by conv => lhs; rw [← List.take_append_drop j l, List.drop_eq_getElem_cons hj, h2]
  have := cut_one 59 (l.take j) (l.drop (j + 1)) h
  rw [← e] at this
  rw [this]
theorem H.cut2 (l : H.T) (h : (59 : UInt8) ∉ l) : (Lib.cut l [59]).1 = l := by rw [cut_none 59 l h]
/-- what stands ahead of the first semicolon begins with what has none -/
theorem H.cut_pre (l : H.T) (j : Nat) (hj : j ≤ l.length) (h : (59 : UInt8) ∉ l.take j) : ∃ u, (Lib.cut l [59]).1 = l.take j ++ u ∧ (∀ (hlt : j < l.length), ¬ l[j] = 59 → ∃ v, u = l[j] :: v) := by
  by_cases hm : (59 : UInt8) ∈ l.drop j
  · obtain ⟨a, b, hab⟩ := List.append_of_mem hm
    obtain ⟨p, q, hp, hq⟩ : ∃ p q, l.drop j = p ++ 59 :: q ∧ (59 : UInt8) ∉ p := by
      have key : ∀ t : H.T, (59 : UInt8) ∈ t → ∃ p q, t = p ++ 59 :: q ∧ (59 : UInt8) ∉ p := by
        intro t
        induction t with
        | nil => intro h; simp at h
        | cons c t ih =>
          intro h
          by_cases hc : c = 59
          · exact ⟨[], t, by rw [hc]; rfl, by simp⟩
          · obtain ⟨p, q, e, hn⟩ := ih (by rcases List.mem_cons.1 h with e | e; · exact absurd e.symm hc
                                           · exact e)
            exact ⟨c :: p, q, by rw [e]; rfl, by simp [hn]; exact fun e => hc e.symm⟩
      exact key _ hm
    have e : l = (l.take j ++ p) ++ 59 :: q := by
      rw [List.append_assoc, ← hp, List.take_append_drop]
    have hn : (59 : UInt8) ∉ l.take j ++ p := by
      rw [List.mem_append]
      rintro (x | x)
      · exact h x
      · exact hq x
    have hc := cut_one 59 (l.take j ++ p) q hn
    rw [← e] at hc
    refine ⟨p, by rw [hc], fun hlt hne => ?_⟩
    rw [List.drop_eq_getElem_cons hlt] at hp
    cases p with
    | nil =>
      injection hp with h1 h2
      exact absurd h1 hne
    | cons c p =>
      rw [List.cons_append] at hp
      injection hp with h1 h2
      exact ⟨p, by rw [h1]⟩
  · have hn : (59 : UInt8) ∉ l := by
      rw [← List.take_append_drop j l, List.mem_append]
      rintro (x | x)
      · exact h x
      · exact hm x
    refine ⟨l.drop j, by rw [H.cut2 l hn, List.take_append_drop], fun hlt _ => ⟨l.drop (j + 1), List.drop_eq_getElem_cons hlt⟩⟩
theorem H.hexF_lt : ∀ (a : H.T) (n m : Nat), H.hexF n a = some m → m < (n + 1) * 16 ^ a.length
  | [], n, m, h => by simp only [H.hexF, Option.some.injEq] at h; subst h; simp
  | c :: t, n, m, h => by
    simp only [H.hexF] at h
    cases hc : H.hexv c with
    | none => rw [hc] at h; cases h
    | some d =>
      rw [hc] at h
      have hd : d < 16 := by
        have := H.hex_byte ⟨c.toNat, c.toNat_lt⟩
        simp only at this
        unfold H.hexv at hc
        rw [hc] at this
        split at this
        · rename_i hg
          injection this with this
          unfold H.digit at hg
          simp only [Bool.and_eq_true, decide_eq_true_eq] at hg
          omega
        · split at this
          · injection this with this; omega
          · cases this
      have := H.hexF_lt t _ m h
      refine Nat.lt_of_lt_of_le this ?_
      rw [List.length_cons, Nat.pow_succ, Nat.mul_comm (16 ^ t.length) 16, ← Nat.mul_assoc]
      exact Nat.mul_le_mul_right _ (by omega)
theorem H.small_byte (b : UInt8) : H.small b.toNat < 256 := by rw [← H.lowB_nat]; exact (H.lowB b).toNat_lt
section
variable (l : H.T) (j n : Nat)
theorem size_long (hj : 8 < j) (hjl : j ≤ l.length) (h : H.hexF 0 (l.take j) = some n) : H.whole16 (Lib.cut l [59]).1 = .error 13 := by
  obtain ⟨u, hu, _⟩ := H.cut_pre l j hjl (H.hexF_no59 _ _ _ h)
  unfold H.whole16 H.wholeO
  rw [hu, if_neg (by rw [List.length_append, List.length_take]; omega)]
theorem size_stop (hj8 : j ≤ 8) (hlt : j < l.length) (h : H.hexF 0 (l.take j) = some n) (hx : H.hexv l[j] = none) : H.whole16 (Lib.cut l [59]).1 = (if (decide (0 < j) && (l[j] == 59)) then .ok n else .error 13) := by
  have h59 := H.hexF_no59 _ _ _ h
  by_cases h5 : l[j] = 59
  · rw [H.cut1 l j hlt h59 h5]
    unfold H.whole16 H.wholeO
    rw [if_pos (by rw [List.length_take]; omega)]
    unfold H.hexO
    by_cases h0 : 0 < j
    · have hne : l.take j ≠ [] := by intro e; have := congrArg List.length e; rw [List.length_take, List.length_nil] at this; omega
      rw [if_neg hne, h]
      simp [h0, h5]
    · have : j = 0 := by omega
      subst this
      rw [List.take_zero, if_pos rfl]
      simp
  · obtain ⟨u, hu, hv⟩ := H.cut_pre l j (by omega) h59
    obtain ⟨v, rfl⟩ := hv hlt h5
    rw [hu]
    have hb : (l[j] == 59) = false := by simpa using h5
    rw [hb, Bool.and_false]
    simp only [Bool.false_eq_true, if_false]
    unfold H.whole16 H.wholeO H.hexO
    by_cases hlen : (l.take j ++ l[j] :: v).length ≤ 8
    · rw [if_pos hlen, if_neg (by simp), H.hexF_app _ _ _ _ h]
      simp only [H.hexF, hx]
    · rw [if_neg hlen]
theorem size_end (hj8 : j ≤ 8) (hlt : j = l.length) (h : H.hexF 0 (l.take j) = some n) : H.whole16 (Lib.cut l [59]).1 = (if decide (0 < j) then .ok n else .error 13) := by
  have h59 := H.hexF_no59 _ _ _ h
  rw [List.take_of_length_le (by omega)] at h h59
  rw [H.cut2 l h59]
  unfold H.whole16 H.wholeO
  rw [if_pos (by omega)]
  unfold H.hexO
  by_cases h0 : 0 < j
  · rw [if_neg (by intro e; rw [e] at hlt; simp at hlt; omega), h]
    simp [h0]
  · rw [if_pos (by rw [← List.length_eq_zero_iff]; omega)]
    simp [h0]
end
set_option maxHeartbeats 4000000 in
theorem dsize_any (w : World) (l : H.T) (hl : l.length ≤ 1000000000) : Calls Tryz.prog 115 #[S l] w fun e w' => SizeD l e ∧ Below w.heap.size w w' := by
  obtain ⟨z, hz⟩ : ∃ z : Int, ((l.length : Nat) : Int) = z := ⟨_, rfl⟩
  have hzl : z ≤ 1000000000 := by omega
  go_enter Tryz.func115, Tryz.ntmps115
  go_wp2
  go_loopw [4, 5] (fun s u wr => ∃ j n : Nat, u = .int .i64 (j : Int) ∧ j ≤ l.length ∧ j ≤ 8 ∧ s = .int .i64 (n : Int) ∧ H.hexF 0 (l.take j) = some n ∧ Below w.heap.size w wr) (fun s u _ => l.length - (intOf u).toNat)
  case atStart => exact ⟨0, 0, rfl, Nat.zero_le _, by omega, rfl, rfl, Below.refl _ _⟩
  case round =>
    obtain ⟨j, n, rfl, hj, hj8, rfl, hh, hb⟩ := hrel
    have Hh := Lib.hid hh
    have Hb := Lib.hid hb
    clear hh hb
    have hnl0 : n < 4294967296 := by
      have h := H.hexF_lt _ _ _ Hh.out
      have h2 : (16 : Nat) ^ (l.take j).length ≤ 16 ^ 8 := Nat.pow_le_pow_right (by omega) (by rw [List.length_take]; omega)
      have h3 : (16 : Nat) ^ 8 = 4294967296 := rfl
      omega
    by_cases hlt : j < l.length
    · have hjz : (j : Int) < z := by omega
      obtain ⟨x, hx⟩ : ∃ x : UInt8, l[j] = x := ⟨_, rfl⟩
      obtain ⟨c, hc⟩ : ∃ c : Nat, (H.lowB x).toNat = c := ⟨_, rfl⟩
      have hc1 : c < 256 := by rw [← hc]; exact (H.lowB x).toNat_lt
      have hlow := fun W => low_any W [x] (by simp)
      have e1 : (⟨l.toArray⟩ : ByteArray).extract j (j + 1) = ⟨[x].toArray⟩ := by
        rw [ext_mid, H.take_at l j hlt, hx, List.drop_append_of_le_length (by rw [List.length_take]; omega), List.drop_of_length_le (by rw [List.length_take]; omega)]; rfl
      have hll : H.low [x] = [H.lowB x] := rfl
      rw [hll] at hlow
      have i1 : ∀ W, (Instr.index 9 (S [H.lowB x]) (.int .i64 0)).run Tryz.prog W = .ok (.int .u8 (c : Int)) W := fun W => index_str [H.lowB x] 0 (by simp) (c : Int) (by rw [← hc]; rfl) W
      obtain ⟨y, hy⟩ : ∃ y, [H.lowB x] = y := ⟨_, rfl⟩
      rw [hy] at hlow i1
      have b1 : (0 : Int) ≤ (j : Int) := by omega
      have b2 : (j : Int) ≤ (j : Int) + 1 := by omega
      have b3 : (j : Int) + 1 ≤ z := by omega
      have hw1 : IntKind.i64.wrap ((j : Int) + 1) = (j : Int) + 1 := by rw [IntKind.wrap_i64]; omega
      have nt : ((j : Int) + 1).toNat = j + 1 := by omega
      have hdg := fun W => csy (ddigit W c hc1)
      have hby := H.hex_byte ⟨x.toNat, x.toNat_lt⟩
      simp only at hby
      rw [← H.lowB_nat, hc] at hby
      have hbx : H.hexv l[j] = H.hexN x.toNat := by unfold H.hexv; rw [hx]
      have HBX := Lib.hid hbx
      have HBY := Lib.hid hby
      clear hx hc hll hy hbx hby
      cases hd : H.digit c with
      | true =>
        rw [hd] at hdg
        have hv : H.hexN x.toNat = some (c - 48) := by rw [HBY.out, if_pos hd]
        have hd2 := hd
        unfold H.digit at hd2
        simp only [Bool.and_eq_true, decide_eq_true_eq] at hd2
        obtain ⟨k1, k2⟩ := hd2
        have hnew : H.hexF 0 (l.take (j + 1)) = some (16 * n + (c - 48)) := by
          rw [H.take_at l j hlt, H.hexF_app _ _ _ _ Hh.out]
          simp only [H.hexF, HBX.out, hv]
        have Hnew := Lib.hid hnew
        have hnl : n < 4294967296 := by
          have h := H.hexF_lt _ _ _ Hh.out
          have h2 : (16 : Nat) ^ (l.take j).length ≤ 16 ^ 8 := Nat.pow_le_pow_right (by omega) (by rw [List.length_take]; omega)
          have h3 : (16 : Nat) ^ 8 = 4294967296 := rfl
          omega
        clear hnew hv
        have w1 : IntKind.u8.wrap ((c : Int) - 48) = (c : Int) - 48 := by rw [IntKind.wrap_u8]; omega
        have w2 : IntKind.i64.wrap ((c : Int) - 48) = (c : Int) - 48 := by rw [IntKind.wrap_i64]; omega
        have w3 : IntKind.i64.wrap (16 * (n : Int)) = 16 * (n : Int) := by rw [IntKind.wrap_i64]; omega
        have w4 : IntKind.i64.wrap (16 * (n : Int) + ((c : Int) - 48)) = 16 * (n : Int) + ((c : Int) - 48) := by rw [IntKind.wrap_i64]; omega
        clear hd
        by_cases h8 : 8 ≤ j
        · have h8' : (8 : Int) < (j : Int) + 1 := by omega
          have Hz := Lib.hid (size_long l (j + 1) _ (by omega) (by omega) Hnew.out)
          go_wp2_with fail
          refine (hlow _).mono ?_
          rintro e w1 ⟨rfl, hb1⟩
          have Hb1 := Lib.hid (Hb.out.trans (hb1.mono Hb.out.size))
          clear hb1 hlow
          go_wp2_with (refine (hdg _).mono ?_; rintro e w2 ⟨rfl, rfl⟩)
          go_ret2
          exact ⟨⟨0, false, rfl, by omega, Hz.out⟩, Hb1.out⟩
        · have h8' : ¬ (8 : Int) < (j : Int) + 1 := by omega
          go_wp2_with fail
          refine (hlow _).mono ?_
          rintro e w1 ⟨rfl, hb1⟩
          have Hb1 := Lib.hid (Hb.out.trans (hb1.mono Hb.out.size))
          clear hb1 hlow
          go_wp2_with (refine (hdg _).mono ?_; rintro e w2 ⟨rfl, rfl⟩)
          go_roundw
          case rel => exact ⟨j + 1, 16 * n + (c - 48), by go_num, by omega, by omega, by first | go_num | (congr 1; omega), Hnew.out, Hb1.out⟩
          case measure => simp [intOf]; omega
      | false =>
        rw [hd] at hdg
        by_cases ha : 97 ≤ c ∧ c ≤ 102
        · have hv : H.hexN x.toNat = some (c - 97 + 10) := by rw [HBY.out, hd, if_neg (by decide), if_pos ha]
          obtain ⟨k1, k2⟩ := ha
          have k1' : ¬ (c : Int) < 97 := by omega
          have k2' : ¬ (102 : Int) < (c : Int) := by omega
          have hnew : H.hexF 0 (l.take (j + 1)) = some (16 * n + (c - 97 + 10)) := by
            rw [H.take_at l j hlt, H.hexF_app _ _ _ _ Hh.out]
            simp only [H.hexF, HBX.out, hv]
          have Hnew := Lib.hid hnew
          have hnl : n < 4294967296 := by
            have h := H.hexF_lt _ _ _ Hh.out
            have h2 : (16 : Nat) ^ (l.take j).length ≤ 16 ^ 8 := Nat.pow_le_pow_right (by omega) (by rw [List.length_take]; omega)
            have h3 : (16 : Nat) ^ 8 = 4294967296 := rfl
            omega
          clear hnew hv
          have w1 : IntKind.u8.wrap ((c : Int) - 97) = (c : Int) - 97 := by rw [IntKind.wrap_u8]; omega
          have w2 : IntKind.i64.wrap ((c : Int) - 97) = (c : Int) - 97 := by rw [IntKind.wrap_i64]; omega
          have w3 : IntKind.i64.wrap (16 * (n : Int)) = 16 * (n : Int) := by rw [IntKind.wrap_i64]; omega
          have w4 : IntKind.i64.wrap (16 * (n : Int) + ((c : Int) - 97)) = 16 * (n : Int) + ((c : Int) - 97) := by rw [IntKind.wrap_i64]; omega
          have w5 : IntKind.i64.wrap (16 * (n : Int) + ((c : Int) - 97) + 10) = 16 * (n : Int) + ((c : Int) - 97) + 10 := by rw [IntKind.wrap_i64]; omega
          clear hd
          by_cases h8 : 8 ≤ j
          · have h8' : (8 : Int) < (j : Int) + 1 := by omega
            have Hz := Lib.hid (size_long l (j + 1) _ (by omega) (by omega) Hnew.out)
            go_wp2_with fail
            refine (hlow _).mono ?_
            rintro e w1 ⟨rfl, hb1⟩
            have Hb1 := Lib.hid (Hb.out.trans (hb1.mono Hb.out.size))
            clear hb1 hlow
            go_wp2_with (refine (hdg _).mono ?_; rintro e w2 ⟨rfl, rfl⟩)
            go_ret2
            exact ⟨⟨0, false, rfl, by omega, Hz.out⟩, Hb1.out⟩
          · have h8' : ¬ (8 : Int) < (j : Int) + 1 := by omega
            go_wp2_with fail
            refine (hlow _).mono ?_
            rintro e w1 ⟨rfl, hb1⟩
            have Hb1 := Lib.hid (Hb.out.trans (hb1.mono Hb.out.size))
            clear hb1 hlow
            go_wp2_with (refine (hdg _).mono ?_; rintro e w2 ⟨rfl, rfl⟩)
            go_roundw
            case rel => exact ⟨j + 1, 16 * n + (c - 97 + 10), by go_num, by omega, by omega, by first | go_num | (congr 1; omega), Hnew.out, Hb1.out⟩
            case measure => simp [intOf]; omega
        · have hv : H.hexv l[j] = none := by rw [HBX.out, HBY.out, hd, if_neg (by decide), if_neg ha]
          have hst := size_stop l j n (by omega) hlt Hh.out hv
          have hx5 : ∀ W, (Instr.index 9 (S l) (.int .i64 (j : Int))).run Tryz.prog W = .ok (.int .u8 (l[j].toNat : Int)) W := index_str l j hlt _ rfl
          obtain ⟨x5, h5⟩ : ∃ x5 : Nat, l[j].toNat = x5 := ⟨_, rfl⟩
          rw [h5] at hx5
          have heq : (l[j] == (59 : UInt8)) = ((x5 : Int) == 59) := by
            by_cases h : l[j] = 59
            · have : x5 = 59 := by rw [← h5, h]; rfl
              rw [this, h]; rfl
            · have h1 : (l[j] == (59 : UInt8)) = false := by simpa using h
              have h2 : ¬ x5 = 59 := fun e => h (UInt8.toNat_inj.1 (h5.trans e))
              rw [h1]; symm; simp; omega
          rw [heq] at hst
          have Hst := Lib.hid hst
          have hjz2 : ((j : Int) == z) = false := by simp; omega
          clear hd hst heq hv h5
          by_cases k1 : 97 ≤ c
          · have k1' : ¬ (c : Int) < 97 := by omega
            have k2' : (102 : Int) < (c : Int) := by omega
            by_cases h0 : 0 < j
            · have h0' : (0 : Int) < (j : Int) := by omega
              have Hz := Lib.hid (show H.whole16 (Lib.cut l [59]).1 = (if ((x5 : Int) == 59) then .ok n else .error 13) from by rw [Hst.out]; simp [h0])
              go_wp2_with fail
              refine (hlow _).mono ?_
              rintro e w1 ⟨rfl, hb1⟩
              have Hb1 := Lib.hid (Hb.out.trans (hb1.mono Hb.out.size))
              clear hb1 hlow
              go_wp2_with (refine (hdg _).mono ?_; rintro e w2 ⟨rfl, rfl⟩)
              refine wp_region_any (by kernel_rfl) ?_
              refine wpAny_take (i := 0) (v := ?vsb1) rfl (by kernel_rfl) (by kernel_rfl) (by kernel_rfl) (fun _ _ _ h => h) (Or.inl ⟨by kernel_rfl, ?hsb1⟩) ?rsb1
              case hsb1 => (intro w; go_simp; first | done | (with_reducible rfl))
              refine wpAny_take (i := 1) (v := ?vsb2) rfl (by kernel_rfl) (by kernel_rfl) (by kernel_rfl) (fun _ _ _ h => h) (Or.inl ⟨by kernel_rfl, ?hsb2⟩) ?rsb2
              case hsb2 => (intro w; go_simp; first | done | (with_reducible rfl))
              refine wpAny_take (i := 2) (v := ?vsb3) rfl (by kernel_rfl) (by kernel_rfl) (by kernel_rfl) (fun _ _ _ h => h) (Or.inl ⟨by kernel_rfl, ?hsb3⟩) ?rsb3
              case hsb3 => (intro w; go_simp; first | done | (with_reducible rfl))
              refine wpAny_take (i := 3) (v := ?vsb4) rfl (by kernel_rfl) (by kernel_rfl) (by kernel_rfl) (fun _ _ _ h => h) (Or.inl ⟨by kernel_rfl, ?hsb4⟩) ?rsb4
              case hsb4 => (intro w; go_simp; first | done | (with_reducible rfl))
              refine wpAny_take (i := 4) (v := ?vsb5) rfl (by kernel_rfl) (by kernel_rfl) (by kernel_rfl) (fun _ _ _ h => h) (Or.inl ⟨by kernel_rfl, ?hsb5⟩) ?rsb5
              case hsb5 => (intro w; go_simp; first | done | (with_reducible rfl))
              refine wpAny_take (i := 5) (v := ?vsb6) rfl (by kernel_rfl) (by kernel_rfl) (by kernel_rfl) (fun _ _ _ h => h) (Or.inl ⟨by kernel_rfl, ?hsb6⟩) ?rsb6
              case hsb6 => (intro w; go_simp; first | done | (with_reducible rfl))
              refine wpAny_take (i := 6) (v := ?vsb7) rfl (by kernel_rfl) (by kernel_rfl) (by kernel_rfl) (fun _ _ _ h => h) (Or.inl ⟨by kernel_rfl, ?hsb7⟩) ?rsb7
              case hsb7 => (intro w; go_simp; first | done | (with_reducible rfl))
              refine wpAny_take (i := 7) (v := ?vsb8) rfl (by kernel_rfl) (by kernel_rfl) (by kernel_rfl) (fun _ _ _ h => h) (Or.inl ⟨by kernel_rfl, ?hsb8⟩) ?rsb8
              case hsb8 => (intro w; go_simp; first | done | (with_reducible rfl))
              refine wpAny_take (i := 8) (v := ?vsb9) rfl (by kernel_rfl) (by kernel_rfl) (by kernel_rfl) (fun _ _ _ h => h) (Or.inl ⟨by kernel_rfl, ?hsb9⟩) ?rsb9
              case hsb9 => (intro w; go_simp; first | done | (with_reducible rfl))
              refine wpAny_take (i := 9) (v := ?vsb10) rfl (by kernel_rfl) (by kernel_rfl) (by kernel_rfl) (fun _ _ _ h => h) (Or.inl ⟨by kernel_rfl, ?hsb10⟩) ?rsb10
              case hsb10 => (intro w; go_simp; first | done | (with_reducible rfl))
              refine wpAny_take (i := 10) (v := ?vsb11) rfl (by kernel_rfl) (by kernel_rfl) (by kernel_rfl) (fun _ _ _ h => h) (Or.inl ⟨by kernel_rfl, ?hsb11⟩) ?rsb11
              case hsb11 => (intro w; go_simp; first | done | (with_reducible rfl))
              refine wpAny_take (i := 11) (v := ?vsb12) rfl (by kernel_rfl) (by kernel_rfl) (by kernel_rfl) (fun _ _ _ h => h) (Or.inl ⟨by kernel_rfl, ?hsb12⟩) ?rsb12
              case hsb12 => (intro w; go_simp; first | done | (with_reducible rfl))
              refine wpAny_take (i := 12) (v := ?vsb13) rfl (by kernel_rfl) (by kernel_rfl) (by kernel_rfl) (fun _ _ _ h => h) (Or.inl ⟨by kernel_rfl, ?hsb13⟩) ?rsb13
              case hsb13 => (intro w; go_simp; first | done | (with_reducible rfl))
              refine wpAny_take (i := 13) (v := ?vsb14) rfl (by kernel_rfl) (by kernel_rfl) (by kernel_rfl) (fun _ _ _ h => h) (Or.inl ⟨by kernel_rfl, ?hsb14⟩) ?rsb14
              case hsb14 => (intro w; go_simp; first | done | (with_reducible rfl))
              refine wpAny_take (i := 14) (v := ?vsb15) rfl (by kernel_rfl) (by kernel_rfl) (by kernel_rfl) (fun _ _ _ h => h) (Or.inl ⟨by kernel_rfl, ?hsb15⟩) ?rsb15
              case hsb15 => (intro w; go_simp; first | done | (with_reducible rfl))
              refine wpAny_take (i := 15) (v := ?vsb16) rfl (by kernel_rfl) (by kernel_rfl) (by kernel_rfl) (fun _ _ _ h => h) (Or.inl ⟨by kernel_rfl, ?hsb16⟩) ?rsb16
              case hsb16 => (intro w; go_simp; first | done | (with_reducible rfl))
              refine wpAny_take (i := 16) (v := ?vsb17) rfl (by kernel_rfl) (by kernel_rfl) (by kernel_rfl) (fun _ _ _ h => h) (Or.inl ⟨by kernel_rfl, ?hsb17⟩) ?rsb17
              case hsb17 => (intro w; go_simp; first | done | (with_reducible rfl))
              refine wpAny_done (by kernel_rfl) ?_ _
              try go_simp
              obtain ⟨bq, hbq⟩ : ∃ bq, ((x5 : Int) == 59) = bq := ⟨_, rfl⟩
              go_wp2
              go_ret2
              exact ⟨⟨n, _, rfl, by omega, Hz.out⟩, Hb1.out.drew⟩
            · have h0' : ¬ (0 : Int) < (j : Int) := by omega
              have Hz := Lib.hid (show H.whole16 (Lib.cut l [59]).1 = .error 13 from by rw [Hst.out]; simp [h0])
              go_wp2_with fail
              refine (hlow _).mono ?_
              rintro e w1 ⟨rfl, hb1⟩
              have Hb1 := Lib.hid (Hb.out.trans (hb1.mono Hb.out.size))
              clear hb1 hlow
              go_wp2_with (refine (hdg _).mono ?_; rintro e w2 ⟨rfl, rfl⟩)
              refine wp_region_any (by kernel_rfl) ?_
              refine wpAny_take (i := 0) (v := ?vsc1) rfl (by kernel_rfl) (by kernel_rfl) (by kernel_rfl) (fun _ _ _ h => h) (Or.inl ⟨by kernel_rfl, ?hsc1⟩) ?rsc1
              case hsc1 => (intro w; go_simp; first | done | (with_reducible rfl))
              refine wpAny_take (i := 1) (v := ?vsc2) rfl (by kernel_rfl) (by kernel_rfl) (by kernel_rfl) (fun _ _ _ h => h) (Or.inl ⟨by kernel_rfl, ?hsc2⟩) ?rsc2
              case hsc2 => (intro w; go_simp; first | done | (with_reducible rfl))
              refine wpAny_take (i := 2) (v := ?vsc3) rfl (by kernel_rfl) (by kernel_rfl) (by kernel_rfl) (fun _ _ _ h => h) (Or.inl ⟨by kernel_rfl, ?hsc3⟩) ?rsc3
              case hsc3 => (intro w; go_simp; first | done | (with_reducible rfl))
              refine wpAny_take (i := 3) (v := ?vsc4) rfl (by kernel_rfl) (by kernel_rfl) (by kernel_rfl) (fun _ _ _ h => h) (Or.inl ⟨by kernel_rfl, ?hsc4⟩) ?rsc4
              case hsc4 => (intro w; go_simp; first | done | (with_reducible rfl))
              refine wpAny_take (i := 4) (v := undef) rfl (by kernel_rfl) (by kernel_rfl) (by kernel_rfl) (fun _ _ _ h => h) (Or.inr ⟨by kernel_rfl, rfl⟩) ?_
              refine wpAny_take (i := 5) (v := undef) rfl (by kernel_rfl) (by kernel_rfl) (by kernel_rfl) (fun _ _ _ h => h) (Or.inr ⟨by kernel_rfl, rfl⟩) ?_
              refine wpAny_take (i := 6) (v := undef) rfl (by kernel_rfl) (by kernel_rfl) (by kernel_rfl) (fun _ _ _ h => h) (Or.inr ⟨by kernel_rfl, rfl⟩) ?_
              refine wpAny_take (i := 7) (v := undef) rfl (by kernel_rfl) (by kernel_rfl) (by kernel_rfl) (fun _ _ _ h => h) (Or.inr ⟨by kernel_rfl, rfl⟩) ?_
              refine wpAny_take (i := 8) (v := undef) rfl (by kernel_rfl) (by kernel_rfl) (by kernel_rfl) (fun _ _ _ h => h) (Or.inr ⟨by kernel_rfl, rfl⟩) ?_
              refine wpAny_take (i := 9) (v := undef) rfl (by kernel_rfl) (by kernel_rfl) (by kernel_rfl) (fun _ _ _ h => h) (Or.inr ⟨by kernel_rfl, rfl⟩) ?_
              refine wpAny_take (i := 10) (v := undef) rfl (by kernel_rfl) (by kernel_rfl) (by kernel_rfl) (fun _ _ _ h => h) (Or.inr ⟨by kernel_rfl, rfl⟩) ?_
              refine wpAny_take (i := 11) (v := undef) rfl (by kernel_rfl) (by kernel_rfl) (by kernel_rfl) (fun _ _ _ h => h) (Or.inr ⟨by kernel_rfl, rfl⟩) ?_
              refine wpAny_take (i := 12) (v := undef) rfl (by kernel_rfl) (by kernel_rfl) (by kernel_rfl) (fun _ _ _ h => h) (Or.inr ⟨by kernel_rfl, rfl⟩) ?_
              refine wpAny_take (i := 13) (v := undef) rfl (by kernel_rfl) (by kernel_rfl) (by kernel_rfl) (fun _ _ _ h => h) (Or.inr ⟨by kernel_rfl, rfl⟩) ?_
              refine wpAny_take (i := 14) (v := ?vsc15) rfl (by kernel_rfl) (by kernel_rfl) (by kernel_rfl) (fun _ _ _ h => h) (Or.inl ⟨by kernel_rfl, ?hsc15⟩) ?rsc15
              case hsc15 => (intro w; go_simp; first | done | (with_reducible rfl))
              refine wpAny_take (i := 15) (v := ?vsc16) rfl (by kernel_rfl) (by kernel_rfl) (by kernel_rfl) (fun _ _ _ h => h) (Or.inl ⟨by kernel_rfl, ?hsc16⟩) ?rsc16
              case hsc16 => (intro w; go_simp; first | done | (with_reducible rfl))
              refine wpAny_take (i := 16) (v := ?vsc17) rfl (by kernel_rfl) (by kernel_rfl) (by kernel_rfl) (fun _ _ _ h => h) (Or.inl ⟨by kernel_rfl, ?hsc17⟩) ?rsc17
              case hsc17 => (intro w; go_simp; first | done | (with_reducible rfl))
              refine wpAny_done (by kernel_rfl) ?_ _
              try go_simp
              go_wp2
              go_ret2
              exact ⟨⟨n, false, rfl, by omega, Hz.out⟩, Hb1.out.drew⟩
          · have k1' : (c : Int) < 97 := by omega
            by_cases h0 : 0 < j
            · have h0' : (0 : Int) < (j : Int) := by omega
              have Hz := Lib.hid (show H.whole16 (Lib.cut l [59]).1 = (if ((x5 : Int) == 59) then .ok n else .error 13) from by rw [Hst.out]; simp [h0])
              go_wp2_with fail
              refine (hlow _).mono ?_
              rintro e w1 ⟨rfl, hb1⟩
              have Hb1 := Lib.hid (Hb.out.trans (hb1.mono Hb.out.size))
              clear hb1 hlow
              go_wp2_with (refine (hdg _).mono ?_; rintro e w2 ⟨rfl, rfl⟩)
              refine wp_region_any (by kernel_rfl) ?_
              refine wpAny_take (i := 0) (v := ?vsd1) rfl (by kernel_rfl) (by kernel_rfl) (by kernel_rfl) (fun _ _ _ h => h) (Or.inl ⟨by kernel_rfl, ?hsd1⟩) ?rsd1
              case hsd1 => (intro w; go_simp; first | done | (with_reducible rfl))
              refine wpAny_take (i := 1) (v := ?vsd2) rfl (by kernel_rfl) (by kernel_rfl) (by kernel_rfl) (fun _ _ _ h => h) (Or.inl ⟨by kernel_rfl, ?hsd2⟩) ?rsd2
              case hsd2 => (intro w; go_simp; first | done | (with_reducible rfl))
              refine wpAny_take (i := 2) (v := ?vsd3) rfl (by kernel_rfl) (by kernel_rfl) (by kernel_rfl) (fun _ _ _ h => h) (Or.inl ⟨by kernel_rfl, ?hsd3⟩) ?rsd3
              case hsd3 => (intro w; go_simp; first | done | (with_reducible rfl))
              refine wpAny_take (i := 3) (v := ?vsd4) rfl (by kernel_rfl) (by kernel_rfl) (by kernel_rfl) (fun _ _ _ h => h) (Or.inl ⟨by kernel_rfl, ?hsd4⟩) ?rsd4
              case hsd4 => (intro w; go_simp; first | done | (with_reducible rfl))
              refine wpAny_take (i := 4) (v := ?vsd5) rfl (by kernel_rfl) (by kernel_rfl) (by kernel_rfl) (fun _ _ _ h => h) (Or.inl ⟨by kernel_rfl, ?hsd5⟩) ?rsd5
              case hsd5 => (intro w; go_simp; first | done | (with_reducible rfl))
              refine wpAny_take (i := 5) (v := ?vsd6) rfl (by kernel_rfl) (by kernel_rfl) (by kernel_rfl) (fun _ _ _ h => h) (Or.inl ⟨by kernel_rfl, ?hsd6⟩) ?rsd6
              case hsd6 => (intro w; go_simp; first | done | (with_reducible rfl))
              refine wpAny_take (i := 6) (v := ?vsd7) rfl (by kernel_rfl) (by kernel_rfl) (by kernel_rfl) (fun _ _ _ h => h) (Or.inl ⟨by kernel_rfl, ?hsd7⟩) ?rsd7
              case hsd7 => (intro w; go_simp; first | done | (with_reducible rfl))
              refine wpAny_take (i := 7) (v := ?vsd8) rfl (by kernel_rfl) (by kernel_rfl) (by kernel_rfl) (fun _ _ _ h => h) (Or.inl ⟨by kernel_rfl, ?hsd8⟩) ?rsd8
              case hsd8 => (intro w; go_simp; first | done | (with_reducible rfl))
              refine wpAny_take (i := 8) (v := ?vsd9) rfl (by kernel_rfl) (by kernel_rfl) (by kernel_rfl) (fun _ _ _ h => h) (Or.inl ⟨by kernel_rfl, ?hsd9⟩) ?rsd9
              case hsd9 => (intro w; go_simp; first | done | (with_reducible rfl))
              refine wpAny_take (i := 9) (v := ?vsd10) rfl (by kernel_rfl) (by kernel_rfl) (by kernel_rfl) (fun _ _ _ h => h) (Or.inl ⟨by kernel_rfl, ?hsd10⟩) ?rsd10
              case hsd10 => (intro w; go_simp; first | done | (with_reducible rfl))
              refine wpAny_take (i := 10) (v := ?vsd11) rfl (by kernel_rfl) (by kernel_rfl) (by kernel_rfl) (fun _ _ _ h => h) (Or.inl ⟨by kernel_rfl, ?hsd11⟩) ?rsd11
              case hsd11 => (intro w; go_simp; first | done | (with_reducible rfl))
              refine wpAny_take (i := 11) (v := ?vsd12) rfl (by kernel_rfl) (by kernel_rfl) (by kernel_rfl) (fun _ _ _ h => h) (Or.inl ⟨by kernel_rfl, ?hsd12⟩) ?rsd12
              case hsd12 => (intro w; go_simp; first | done | (with_reducible rfl))
              refine wpAny_take (i := 12) (v := ?vsd13) rfl (by kernel_rfl) (by kernel_rfl) (by kernel_rfl) (fun _ _ _ h => h) (Or.inl ⟨by kernel_rfl, ?hsd13⟩) ?rsd13
              case hsd13 => (intro w; go_simp; first | done | (with_reducible rfl))
              refine wpAny_take (i := 13) (v := ?vsd14) rfl (by kernel_rfl) (by kernel_rfl) (by kernel_rfl) (fun _ _ _ h => h) (Or.inl ⟨by kernel_rfl, ?hsd14⟩) ?rsd14
              case hsd14 => (intro w; go_simp; first | done | (with_reducible rfl))
              refine wpAny_take (i := 14) (v := ?vsd15) rfl (by kernel_rfl) (by kernel_rfl) (by kernel_rfl) (fun _ _ _ h => h) (Or.inl ⟨by kernel_rfl, ?hsd15⟩) ?rsd15
              case hsd15 => (intro w; go_simp; first | done | (with_reducible rfl))
              refine wpAny_take (i := 15) (v := ?vsd16) rfl (by kernel_rfl) (by kernel_rfl) (by kernel_rfl) (fun _ _ _ h => h) (Or.inl ⟨by kernel_rfl, ?hsd16⟩) ?rsd16
              case hsd16 => (intro w; go_simp; first | done | (with_reducible rfl))
              refine wpAny_take (i := 16) (v := ?vsd17) rfl (by kernel_rfl) (by kernel_rfl) (by kernel_rfl) (fun _ _ _ h => h) (Or.inl ⟨by kernel_rfl, ?hsd17⟩) ?rsd17
              case hsd17 => (intro w; go_simp; first | done | (with_reducible rfl))
              refine wpAny_done (by kernel_rfl) ?_ _
              try go_simp
              obtain ⟨bq, hbq⟩ : ∃ bq, ((x5 : Int) == 59) = bq := ⟨_, rfl⟩
              go_wp2
              go_ret2
              exact ⟨⟨n, _, rfl, by omega, Hz.out⟩, Hb1.out.drew⟩
            · have h0' : ¬ (0 : Int) < (j : Int) := by omega
              have Hz := Lib.hid (show H.whole16 (Lib.cut l [59]).1 = .error 13 from by rw [Hst.out]; simp [h0])
              go_wp2_with fail
              refine (hlow _).mono ?_
              rintro e w1 ⟨rfl, hb1⟩
              have Hb1 := Lib.hid (Hb.out.trans (hb1.mono Hb.out.size))
              clear hb1 hlow
              go_wp2_with (refine (hdg _).mono ?_; rintro e w2 ⟨rfl, rfl⟩)
              refine wp_region_any (by kernel_rfl) ?_
              refine wpAny_take (i := 0) (v := ?vse1) rfl (by kernel_rfl) (by kernel_rfl) (by kernel_rfl) (fun _ _ _ h => h) (Or.inl ⟨by kernel_rfl, ?hse1⟩) ?rse1
              case hse1 => (intro w; go_simp; first | done | (with_reducible rfl))
              refine wpAny_take (i := 1) (v := ?vse2) rfl (by kernel_rfl) (by kernel_rfl) (by kernel_rfl) (fun _ _ _ h => h) (Or.inl ⟨by kernel_rfl, ?hse2⟩) ?rse2
              case hse2 => (intro w; go_simp; first | done | (with_reducible rfl))
              refine wpAny_take (i := 2) (v := ?vse3) rfl (by kernel_rfl) (by kernel_rfl) (by kernel_rfl) (fun _ _ _ h => h) (Or.inl ⟨by kernel_rfl, ?hse3⟩) ?rse3
              case hse3 => (intro w; go_simp; first | done | (with_reducible rfl))
              refine wpAny_take (i := 3) (v := ?vse4) rfl (by kernel_rfl) (by kernel_rfl) (by kernel_rfl) (fun _ _ _ h => h) (Or.inl ⟨by kernel_rfl, ?hse4⟩) ?rse4
              case hse4 => (intro w; go_simp; first | done | (with_reducible rfl))
              refine wpAny_take (i := 4) (v := undef) rfl (by kernel_rfl) (by kernel_rfl) (by kernel_rfl) (fun _ _ _ h => h) (Or.inr ⟨by kernel_rfl, rfl⟩) ?_
              refine wpAny_take (i := 5) (v := undef) rfl (by kernel_rfl) (by kernel_rfl) (by kernel_rfl) (fun _ _ _ h => h) (Or.inr ⟨by kernel_rfl, rfl⟩) ?_
              refine wpAny_take (i := 6) (v := undef) rfl (by kernel_rfl) (by kernel_rfl) (by kernel_rfl) (fun _ _ _ h => h) (Or.inr ⟨by kernel_rfl, rfl⟩) ?_
              refine wpAny_take (i := 7) (v := undef) rfl (by kernel_rfl) (by kernel_rfl) (by kernel_rfl) (fun _ _ _ h => h) (Or.inr ⟨by kernel_rfl, rfl⟩) ?_
              refine wpAny_take (i := 8) (v := undef) rfl (by kernel_rfl) (by kernel_rfl) (by kernel_rfl) (fun _ _ _ h => h) (Or.inr ⟨by kernel_rfl, rfl⟩) ?_
              refine wpAny_take (i := 9) (v := undef) rfl (by kernel_rfl) (by kernel_rfl) (by kernel_rfl) (fun _ _ _ h => h) (Or.inr ⟨by kernel_rfl, rfl⟩) ?_
              refine wpAny_take (i := 10) (v := undef) rfl (by kernel_rfl) (by kernel_rfl) (by kernel_rfl) (fun _ _ _ h => h) (Or.inr ⟨by kernel_rfl, rfl⟩) ?_
              refine wpAny_take (i := 11) (v := undef) rfl (by kernel_rfl) (by kernel_rfl) (by kernel_rfl) (fun _ _ _ h => h) (Or.inr ⟨by kernel_rfl, rfl⟩) ?_
              refine wpAny_take (i := 12) (v := undef) rfl (by kernel_rfl) (by kernel_rfl) (by kernel_rfl) (fun _ _ _ h => h) (Or.inr ⟨by kernel_rfl, rfl⟩) ?_
              refine wpAny_take (i := 13) (v := undef) rfl (by kernel_rfl) (by kernel_rfl) (by kernel_rfl) (fun _ _ _ h => h) (Or.inr ⟨by kernel_rfl, rfl⟩) ?_
              refine wpAny_take (i := 14) (v := ?vse15) rfl (by kernel_rfl) (by kernel_rfl) (by kernel_rfl) (fun _ _ _ h => h) (Or.inl ⟨by kernel_rfl, ?hse15⟩) ?rse15
              case hse15 => (intro w; go_simp; first | done | (with_reducible rfl))
              refine wpAny_take (i := 15) (v := ?vse16) rfl (by kernel_rfl) (by kernel_rfl) (by kernel_rfl) (fun _ _ _ h => h) (Or.inl ⟨by kernel_rfl, ?hse16⟩) ?rse16
              case hse16 => (intro w; go_simp; first | done | (with_reducible rfl))
              refine wpAny_take (i := 16) (v := ?vse17) rfl (by kernel_rfl) (by kernel_rfl) (by kernel_rfl) (fun _ _ _ h => h) (Or.inl ⟨by kernel_rfl, ?hse17⟩) ?rse17
              case hse17 => (intro w; go_simp; first | done | (with_reducible rfl))
              refine wpAny_done (by kernel_rfl) ?_ _
              try go_simp
              go_wp2
              go_ret2
              exact ⟨⟨n, false, rfl, by omega, Hz.out⟩, Hb1.out.drew⟩
    · have hjz : ¬ (j : Int) < z := by omega
      have hjl : j = l.length := by omega
      have hst := size_end l j n (by omega) hjl Hh.out
      have Hst := Lib.hid hst
      have hjz2 : ((j : Int) == z) = true := by simp; omega
      clear hst hjl
      by_cases h0 : 0 < j
      · have h0' : (0 : Int) < (j : Int) := by omega
        have Hz := Lib.hid (show H.whole16 (Lib.cut l [59]).1 = .ok n from by rw [Hst.out]; simp [h0])
        go_wp2
        refine wp_region_any (by kernel_rfl) ?_
        refine wpAny_take (i := 0) (v := ?vsf1) rfl (by kernel_rfl) (by kernel_rfl) (by kernel_rfl) (fun _ _ _ h => h) (Or.inl ⟨by kernel_rfl, ?hsf1⟩) ?rsf1
        case hsf1 => (intro w; go_simp; first | done | (with_reducible rfl))
        refine wpAny_take (i := 1) (v := ?vsf2) rfl (by kernel_rfl) (by kernel_rfl) (by kernel_rfl) (fun _ _ _ h => h) (Or.inl ⟨by kernel_rfl, ?hsf2⟩) ?rsf2
        case hsf2 => (intro w; go_simp; first | done | (with_reducible rfl))
        refine wpAny_take (i := 2) (v := ?vsf3) rfl (by kernel_rfl) (by kernel_rfl) (by kernel_rfl) (fun _ _ _ h => h) (Or.inl ⟨by kernel_rfl, ?hsf3⟩) ?rsf3
        case hsf3 => (intro w; go_simp; first | done | (with_reducible rfl))
        refine wpAny_take (i := 3) (v := ?vsf4) rfl (by kernel_rfl) (by kernel_rfl) (by kernel_rfl) (fun _ _ _ h => h) (Or.inl ⟨by kernel_rfl, ?hsf4⟩) ?rsf4
        case hsf4 => (intro w; go_simp; first | done | (with_reducible rfl))
        refine wpAny_take (i := 4) (v := ?vsf5) rfl (by kernel_rfl) (by kernel_rfl) (by kernel_rfl) (fun _ _ _ h => h) (Or.inl ⟨by kernel_rfl, ?hsf5⟩) ?rsf5
        case hsf5 => (intro w; go_simp; first | done | (with_reducible rfl))
        refine wpAny_take (i := 5) (v := ?vsf6) rfl (by kernel_rfl) (by kernel_rfl) (by kernel_rfl) (fun _ _ _ h => h) (Or.inl ⟨by kernel_rfl, ?hsf6⟩) ?rsf6
        case hsf6 => (intro w; go_simp; first | done | (with_reducible rfl))
        refine wpAny_take (i := 6) (v := ?vsf7) rfl (by kernel_rfl) (by kernel_rfl) (by kernel_rfl) (fun _ _ _ h => h) (Or.inl ⟨by kernel_rfl, ?hsf7⟩) ?rsf7
        case hsf7 => (intro w; go_simp; first | done | (with_reducible rfl))
        refine wpAny_take (i := 7) (v := ?vsf8) rfl (by kernel_rfl) (by kernel_rfl) (by kernel_rfl) (fun _ _ _ h => h) (Or.inl ⟨by kernel_rfl, ?hsf8⟩) ?rsf8
        case hsf8 => (intro w; go_simp; first | done | (with_reducible rfl))
        refine wpAny_take (i := 8) (v := ?vsf9) rfl (by kernel_rfl) (by kernel_rfl) (by kernel_rfl) (fun _ _ _ h => h) (Or.inl ⟨by kernel_rfl, ?hsf9⟩) ?rsf9
        case hsf9 => (intro w; go_simp; first | done | (with_reducible rfl))
        refine wpAny_take (i := 9) (v := undef) rfl (by kernel_rfl) (by kernel_rfl) (by kernel_rfl) (fun _ _ _ h => h) (Or.inr ⟨by kernel_rfl, rfl⟩) ?_
        refine wpAny_take (i := 10) (v := undef) rfl (by kernel_rfl) (by kernel_rfl) (by kernel_rfl) (fun _ _ _ h => h) (Or.inr ⟨by kernel_rfl, rfl⟩) ?_
        refine wpAny_take (i := 11) (v := undef) rfl (by kernel_rfl) (by kernel_rfl) (by kernel_rfl) (fun _ _ _ h => h) (Or.inr ⟨by kernel_rfl, rfl⟩) ?_
        refine wpAny_take (i := 12) (v := undef) rfl (by kernel_rfl) (by kernel_rfl) (by kernel_rfl) (fun _ _ _ h => h) (Or.inr ⟨by kernel_rfl, rfl⟩) ?_
        refine wpAny_take (i := 13) (v := ?vsf14) rfl (by kernel_rfl) (by kernel_rfl) (by kernel_rfl) (fun _ _ _ h => h) (Or.inl ⟨by kernel_rfl, ?hsf14⟩) ?rsf14
        case hsf14 => (intro w; go_simp; first | done | (with_reducible rfl))
        refine wpAny_take (i := 14) (v := ?vsf15) rfl (by kernel_rfl) (by kernel_rfl) (by kernel_rfl) (fun _ _ _ h => h) (Or.inl ⟨by kernel_rfl, ?hsf15⟩) ?rsf15
        case hsf15 => (intro w; go_simp; first | done | (with_reducible rfl))
        refine wpAny_take (i := 15) (v := ?vsf16) rfl (by kernel_rfl) (by kernel_rfl) (by kernel_rfl) (fun _ _ _ h => h) (Or.inl ⟨by kernel_rfl, ?hsf16⟩) ?rsf16
        case hsf16 => (intro w; go_simp; first | done | (with_reducible rfl))
        refine wpAny_take (i := 16) (v := ?vsf17) rfl (by kernel_rfl) (by kernel_rfl) (by kernel_rfl) (fun _ _ _ h => h) (Or.inl ⟨by kernel_rfl, ?hsf17⟩) ?rsf17
        case hsf17 => (intro w; go_simp; first | done | (with_reducible rfl))
        refine wpAny_done (by kernel_rfl) ?_ _
        try go_simp
        go_wp2
        go_ret2
        exact ⟨⟨n, true, rfl, by omega, Hz.out⟩, Hb.out.drew⟩
      · have h0' : ¬ (0 : Int) < (j : Int) := by omega
        have Hz := Lib.hid (show H.whole16 (Lib.cut l [59]).1 = .error 13 from by rw [Hst.out]; simp [h0])
        go_wp2
        refine wp_region_any (by kernel_rfl) ?_
        refine wpAny_take (i := 0) (v := ?vsg1) rfl (by kernel_rfl) (by kernel_rfl) (by kernel_rfl) (fun _ _ _ h => h) (Or.inl ⟨by kernel_rfl, ?hsg1⟩) ?rsg1
        case hsg1 => (intro w; go_simp; first | done | (with_reducible rfl))
        refine wpAny_take (i := 1) (v := ?vsg2) rfl (by kernel_rfl) (by kernel_rfl) (by kernel_rfl) (fun _ _ _ h => h) (Or.inl ⟨by kernel_rfl, ?hsg2⟩) ?rsg2
        case hsg2 => (intro w; go_simp; first | done | (with_reducible rfl))
        refine wpAny_take (i := 2) (v := ?vsg3) rfl (by kernel_rfl) (by kernel_rfl) (by kernel_rfl) (fun _ _ _ h => h) (Or.inl ⟨by kernel_rfl, ?hsg3⟩) ?rsg3
        case hsg3 => (intro w; go_simp; first | done | (with_reducible rfl))
        refine wpAny_take (i := 3) (v := ?vsg4) rfl (by kernel_rfl) (by kernel_rfl) (by kernel_rfl) (fun _ _ _ h => h) (Or.inl ⟨by kernel_rfl, ?hsg4⟩) ?rsg4
        case hsg4 => (intro w; go_simp; first | done | (with_reducible rfl))
        refine wpAny_take (i := 4) (v := undef) rfl (by kernel_rfl) (by kernel_rfl) (by kernel_rfl) (fun _ _ _ h => h) (Or.inr ⟨by kernel_rfl, rfl⟩) ?_
        refine wpAny_take (i := 5) (v := undef) rfl (by kernel_rfl) (by kernel_rfl) (by kernel_rfl) (fun _ _ _ h => h) (Or.inr ⟨by kernel_rfl, rfl⟩) ?_
        refine wpAny_take (i := 6) (v := undef) rfl (by kernel_rfl) (by kernel_rfl) (by kernel_rfl) (fun _ _ _ h => h) (Or.inr ⟨by kernel_rfl, rfl⟩) ?_
        refine wpAny_take (i := 7) (v := undef) rfl (by kernel_rfl) (by kernel_rfl) (by kernel_rfl) (fun _ _ _ h => h) (Or.inr ⟨by kernel_rfl, rfl⟩) ?_
        refine wpAny_take (i := 8) (v := undef) rfl (by kernel_rfl) (by kernel_rfl) (by kernel_rfl) (fun _ _ _ h => h) (Or.inr ⟨by kernel_rfl, rfl⟩) ?_
        refine wpAny_take (i := 9) (v := undef) rfl (by kernel_rfl) (by kernel_rfl) (by kernel_rfl) (fun _ _ _ h => h) (Or.inr ⟨by kernel_rfl, rfl⟩) ?_
        refine wpAny_take (i := 10) (v := undef) rfl (by kernel_rfl) (by kernel_rfl) (by kernel_rfl) (fun _ _ _ h => h) (Or.inr ⟨by kernel_rfl, rfl⟩) ?_
        refine wpAny_take (i := 11) (v := undef) rfl (by kernel_rfl) (by kernel_rfl) (by kernel_rfl) (fun _ _ _ h => h) (Or.inr ⟨by kernel_rfl, rfl⟩) ?_
        refine wpAny_take (i := 12) (v := undef) rfl (by kernel_rfl) (by kernel_rfl) (by kernel_rfl) (fun _ _ _ h => h) (Or.inr ⟨by kernel_rfl, rfl⟩) ?_
        refine wpAny_take (i := 13) (v := undef) rfl (by kernel_rfl) (by kernel_rfl) (by kernel_rfl) (fun _ _ _ h => h) (Or.inr ⟨by kernel_rfl, rfl⟩) ?_
        refine wpAny_take (i := 14) (v := ?vsg15) rfl (by kernel_rfl) (by kernel_rfl) (by kernel_rfl) (fun _ _ _ h => h) (Or.inl ⟨by kernel_rfl, ?hsg15⟩) ?rsg15
        case hsg15 => (intro w; go_simp; first | done | (with_reducible rfl))
        refine wpAny_take (i := 15) (v := ?vsg16) rfl (by kernel_rfl) (by kernel_rfl) (by kernel_rfl) (fun _ _ _ h => h) (Or.inl ⟨by kernel_rfl, ?hsg16⟩) ?rsg16
        case hsg16 => (intro w; go_simp; first | done | (with_reducible rfl))
        refine wpAny_take (i := 16) (v := ?vsg17) rfl (by kernel_rfl) (by kernel_rfl) (by kernel_rfl) (fun _ _ _ h => h) (Or.inl ⟨by kernel_rfl, ?hsg17⟩) ?rsg17
        case hsg17 => (intro w; go_simp; first | done | (with_reducible rfl))
        refine wpAny_done (by kernel_rfl) ?_ _
        try go_simp
        go_wp2
        go_ret2
        exact ⟨⟨n, false, rfl, by omega, Hz.out⟩, Hb.out.drew⟩
end Go.Proofs.YtjkinjfbjbehjaaGreatDoor

/- HTTP: THE DOCUMENT'S OWN chunks. -/
namespace Go.Proofs.YtjkinjfbjbehjaaGreatDoor
open Go.RowKit
set_option maxRecDepth 100000
set_option linter.unusedVariables false
set_option linter.unusedSimpArgs false

def BRow (w : World) (B : Nat) (v : Value) (l : H.T) : Prop := w.ownsRow B 5 1 v l.length (Lib.byteCells l)
theorem brow_nil (w : World) (B : Nat) : BRow w B (.slice none 0 0) [] := World.ownsRow_nil _ _ _ _
theorem bconv {w : World} {B : Nat} {v : Value} {l : H.T} (h : BRow w B v l) : (convert 47 9 v).run Tryz.prog w = .ok (S l) w := by
  obtain ⟨ad, cap, rfl⟩ := row_form h
  have h' := h
  rcases h'.2 with ⟨hv, hn⟩ | ⟨g, cap2, cur, hv, hbg, hg, _⟩
  · injection hv with e1 e2 e3
    subst e1
    have : l = [] := List.eq_nil_of_length_eq_zero e2
    subst this
    exact Lib.run_convert_nil_bytes w 47 9 5 _ Tryz.underlying47 Tryz.underlying5 Tryz.underlying9
  · injection hv with e4 e5 e6
    subst e4 e6
    refine run_convert_bytes_back w 47 9 5 ⟨g, 0, none⟩ _ l Tryz.underlying47 Tryz.underlying5 Tryz.underlying9 (fun j hj => ?_)
    have h2 := World.ownsRow.cellAt h j (by omega)
    rw [Addr.add_lit, Nat.zero_add, h2]
    unfold Lib.byteCells
    simp [List.getElem?_map, List.getElem?_eq_getElem hj]
/-- what chunks hands out -/
def ChD (l : H.T) (r : H.R H.T) (e : Ending) : Prop := match r with
  | .ok (b, r) => e = .returned (.tuple #[S b, .int .i64 ((l.length - r.length : Nat) : Int), .int .i64 0])
  | .error c => ∃ (x : H.T) (y : Int), e = .returned (.tuple #[S x, .int .i64 y, .int .i64 c])
theorem brow_put {w W W2 : World} {v v' : Value} {l s : H.T} (hv : BRow W w.heap.size v l) (hb : Below w.heap.size w W) {n : Nat} (hn : n = l.length + s.length)
    (h1 : W2.ownsRow w.heap.size 5 1 v' n (Lib.byteCells l ++ Lib.strCells ⟨s.toArray⟩)) (h2 : W.grownBy W2 v.ownBlock) : BRow W2 w.heap.size v' (l ++ s) ∧ Below w.heap.size w W2 := by
  refine ⟨?_, ?_⟩
  · unfold BRow
    rw [← bytes_app, List.length_append, ← hn]
    exact h1
  · refine ⟨h2.os.trans hb.os, h2.tape.trans hb.tape, h2.output.trans hb.output, Nat.le_trans hb.size h2.size, fun j hj => ?_⟩
    refine (h2.block j (Nat.lt_of_lt_of_le hj hb.size) (fun e => ?_)).trans (hb.block j hj)
    have := (World.ownsRow.lt hv j e.symm).1
    omega
set_option maxHeartbeats 8000000 in
theorem dchunks_any (w : World) (l : H.T) (most : Int) (hm : H.okMost most) (hl : l.length ≤ 1000000000) : Calls Tryz.prog 95 #[S l, .int .i64 most] w fun e w' => ChD l (H.chunks most l) e ∧ Below w.heap.size w w' := by
  obtain ⟨i0, hi0, hz0, hz1, hz2⟩ := info_parts Tryz.info5
  obtain ⟨z, hz⟩ : ∃ z : Int, ((l.length : Nat) : Int) = z := ⟨_, rfl⟩
  have hzl : z ≤ 1000000000 := by omega
  obtain ⟨hm0, hm1⟩ := hm
  obtain ⟨R, hR⟩ : ∃ R, H.chunks most l = R := ⟨_, rfl⟩
  have HR := Lib.hid hR
  rw [hR]
  clear hR
  go_enter Tryz.func95, Tryz.ntmps95
  go_wp2
  go_loopw [7, 8] (fun v u wr => ∃ (n at_ : Nat) (acc : H.T), u = .int .i64 (at_ : Int) ∧ at_ ≤ l.length ∧ BRow wr w.heap.size v acc ∧ acc.length ≤ at_ ∧ (acc.length : Int) ≤ most ∧ H.chunksF most n acc (l.drop at_) = R ∧ l.length - at_ < n ∧ Below w.heap.size w wr) (fun v u _ => l.length - (intOf u).toNat)
  case atStart => exact ⟨l.length + 1, 0, [], rfl, Nat.zero_le _, brow_nil _ _, by simp, by simpa using hm0, by rw [List.drop_zero]; exact HR.out, by omega, Below.refl _ _⟩
  case round =>
    obtain ⟨n, at_, acc, rfl, hat, hrow, hal, ham, hrd, hn, hb⟩ := hrel
    have Hrow := Lib.hid hrow
    have Hb := Lib.hid hb
    obtain ⟨n, rfl⟩ : ∃ m, n = m + 1 := ⟨n - 1, by omega⟩
    have Hrd := Lib.hid hrd
    obtain ⟨ad, cap, rfl⟩ := row_form hrow
    clear hrow hb hrd
    have e1 : (⟨l.toArray⟩ : ByteArray).extract at_ l.length = ⟨(l.drop at_).toArray⟩ := ext_drop l at_
    have b1 : (0 : Int) ≤ (at_ : Int) := by omega
    have b2 : (at_ : Int) ≤ z := by omega
    have hline := fun W => csy (dline_any W (l.drop at_) (by rw [List.length_drop]; omega))
    obtain ⟨L, hL⟩ : ∃ L, l.drop at_ = L := ⟨_, rfl⟩
    have hLl : L.length = l.length - at_ := by rw [← hL, List.length_drop]
    rw [hL] at hline e1 Hrd
    have HL := Lib.hid hL
    clear hL
    have Hst := Hrd.out
    simp only [H.chunksF, H.chunkSize] at Hst
    cases hq : H.line L with
    | error c =>
      have hD : H.lineD L = ([], 0, c) := by unfold H.lineD; rw [hq]
      rw [hD] at hline
      rw [hq] at Hst
      simp only at Hst
      have hc := H.line_ne hq
      have hc' : (c == 0) = false := by simpa using hc
      subst Hst
      clear hD hq
      go_wp2_with (refine (hline _).mono ?_; rintro e w1 ⟨rfl, rfl⟩)
      go_ret3
      exact ⟨⟨[], 0, rfl⟩, Hb.out⟩
    | ok p =>
      obtain ⟨t, r⟩ := p
      have hlen := H.line_len hq
      have hD : H.lineD L = (t, L.length - r.length, 0) := by unfold H.lineD; rw [hq]
      rw [hD] at hline
      rw [hq] at Hst
      simp only at Hst
      obtain ⟨k, hk⟩ : ∃ k : Nat, L.length - r.length = k := ⟨_, rfl⟩
      rw [hk] at hline
      have hdr := line_drop hq
      rw [hk] at hdr
      have hw1 : IntKind.i64.wrap ((at_ : Int) + (k : Int)) = (at_ : Int) + (k : Int) := by rw [IntKind.wrap_i64]; omega
      have HLr := Lib.hid (show l.drop (at_ + k) = r from by rw [hdr, ← HL.out, List.drop_drop])
      have hrl : r.length = l.length - (at_ + k) := by omega
      have hsz := dsize_any wr t (by omega)
      have HSt := Lib.hid Hst
      clear hD hq hdr Hst
      go_wp2_with (first | (go_at_call 30; refine (hline _).mono ?_; rintro e w1 ⟨rfl, rfl⟩) | fail)
      refine hsz.mono ?_
      rintro e w2 ⟨⟨m, ok, rfl, hml, hwh⟩, hb2⟩
      have Hst := HSt.out
      rw [hwh] at Hst
      have Hb2 := Lib.hid (Hb.out.trans (hb2.mono Hb.out.size))
      have Hrow2 := Lib.hid (show BRow w2 w.heap.size (.slice ad acc.length cap) acc from row_below Hrow.out hb2)
      clear hsz hb2 hwh Hrow Hb
      cases ok with
      | false =>
        simp only [Bool.false_eq_true, if_false] at Hst
        subst Hst
        go_wp2
        go_ret3
        exact ⟨⟨[], 0, rfl⟩, Hb2.out⟩
      | true =>
        simp only [if_true] at Hst
        have hw2 : IntKind.i64.wrap (most - (acc.length : Int)) = most - (acc.length : Int) := by rw [IntKind.wrap_i64]; omega
        by_cases hm4 : most - (acc.length : Int) < (m : Int)
        · have hm0' : ¬ m = 0 := by omega
          rw [if_neg hm0'] at Hst
          unfold H.part at Hst
          rw [if_pos (by omega)] at Hst
          simp only at Hst
          subst Hst
          go_wp2
          go_ret3
          exact ⟨⟨[], 0, rfl⟩, Hb2.out⟩
        · by_cases hm0' : m = 0
          · subst hm0'
            rw [if_pos rfl, H.rd_heads] at Hst
            have e2 : (⟨l.toArray⟩ : ByteArray).extract (at_ + k) l.length = ⟨r.toArray⟩ := by rw [← HLr.out]; exact ext_drop l (at_ + k)
            have b3 : (0 : Int) ≤ (at_ : Int) + (k : Int) := by omega
            have b4 : (at_ : Int) + (k : Int) ≤ z := by omega
            have nt : ((at_ : Int) + (k : Int)).toNat = at_ + k := by omega
            have hrdh := dreadHeads_any w2 r (by omega)
            have HSt2 := Lib.hid Hst
            clear Hst
            go_wp2_with fail
            refine hrdh.mono ?_
            rintro e w3 ⟨hrr, hb3⟩
            have Hst := HSt2.out
            have Hb3 := Lib.hid (Hb2.out.trans (hb3.mono Hb2.out.size))
            have hcv := bconv (show BRow w3 w.heap.size (.slice ad acc.length cap) acc from row_below Hrow2.out hb3)
            clear hrdh hb3
            cases hrd2 : H.rd r with
            | error c =>
              rw [hrd2] at Hst hrr
              simp only at Hst
              have he : e = .returned (.tuple #[.slice none 0 0, .int .i64 0, .int .i64 c]) := hrr
              subst he
              subst Hst
              clear hrr hrd2
              have hw3 : IntKind.i64.wrap ((at_ : Int) + (k : Int) + 0) = (at_ : Int) + (k : Int) := by rw [IntKind.wrap_i64]; omega
              go_wp2
              go_ret3
              exact ⟨⟨acc, _, rfl⟩, Hb3.out⟩
            | ok p =>
              obtain ⟨hs, r2⟩ := p
              have hl2 := H.rdF_len _ _ _ _ _ hrd2
              rw [hrd2] at Hst hrr
              simp only at Hst
              obtain ⟨ad2, cap2, he, _⟩ := hrr
              subst he
              subst Hst
              obtain ⟨kk, hkk⟩ : ∃ kk : Nat, r.length - r2.length = kk := ⟨_, rfl⟩
              rw [hkk]
              have hw3 : IntKind.i64.wrap ((at_ : Int) + (k : Int) + (kk : Int)) = (at_ : Int) + (k : Int) + (kk : Int) := by rw [IntKind.wrap_i64]; omega
              have hfin : (at_ : Int) + (k : Int) + (kk : Int) = ((l.length - r2.length : Nat) : Int) := by omega
              have Hfin := Lib.hid hfin
              clear hfin hrd2 hkk
              go_wp2
              go_ret3
              exact ⟨by show Ending.returned _ = _; rw [← Hfin.out]; rfl, Hb3.out⟩
          · rw [if_neg hm0'] at Hst
            unfold H.part at Hst
            rw [if_neg (by omega)] at Hst
            have hmz : ((m : Int) == 0) = false := by simpa using hm0'
            have hw3 : IntKind.i64.wrap (z - ((at_ : Int) + (k : Int))) = z - ((at_ : Int) + (k : Int)) := by rw [IntKind.wrap_i64]; omega
            by_cases hml2 : m ≤ r.length
            · rw [if_neg (by omega)] at Hst
              simp only at Hst
              have b5 : ¬ z - ((at_ : Int) + (k : Int)) < (m : Int) := by omega
              have b3 : (0 : Int) ≤ (at_ : Int) + (k : Int) := by omega
              have b4 : (at_ : Int) + (k : Int) ≤ (at_ : Int) + (k : Int) + (m : Int) := by omega
              have b6 : (at_ : Int) + (k : Int) + (m : Int) ≤ z := by omega
              have hw4 : IntKind.i64.wrap ((at_ : Int) + (k : Int) + (m : Int)) = (at_ : Int) + (k : Int) + (m : Int) := by rw [IntKind.wrap_i64]; omega
              have nt1 : ((at_ : Int) + (k : Int)).toNat = at_ + k := by omega
              have nt2 : ((at_ : Int) + (k : Int) + (m : Int)).toNat = at_ + k + m := by omega
              have e2 : (⟨l.toArray⟩ : ByteArray).extract (at_ + k) (at_ + k + m) = ⟨(r.take m).toArray⟩ := by
                rw [ext_mid, ← HLr.out, List.drop_take]
                congr 3; omega
              obtain ⟨P, hP⟩ : ∃ P, r.take m = P := ⟨_, rfl⟩
              have hPl : P.length = m := by rw [← hP, List.length_take]; omega
              have HP := Lib.hid hP
              rw [hP] at e2 Hst
              have hdm : r.drop m = l.drop (at_ + k + m) := by rw [← HLr.out, List.drop_drop]
              rw [hdm] at Hst
              have HSt3 := Lib.hid Hst
              obtain ⟨uv, hu⟩ : ∃ uv, uv = Value.slice ad acc.length cap := ⟨_, rfl⟩
              have HrowU := Lib.hid (hu ▸ Hrow2.out)
              have hBsz := Hb2.out.size
              obtain ⟨ys, hys⟩ : ∃ ys : ByteArray, ys = ⟨P.toArray⟩ := ⟨_, rfl⟩
              have Hys := Lib.hid hys
              have hysz : ys.size = m := by rw [hys, S_size, hPl]
              rw [← hys] at e2
              clear Hst hP hdm Hrow2 hys
              go_upto_region 17 with (fail)
              rw [← hu]
              clear hu
              go_wp2_with (at_builtin; refine Lib.wpList_append_own_string _ rfl _ _ 47 9 rfl w.heap.size 5 i0 Tryz.underlying47 Tryz.underlying9 hi0 hz0 hz1 hz2 _ _ _ rfl HrowU.out ys rfl ?c3 ?c4 ?c5 ?_)
              case c3 => unfold maxLen; omega
              case c4 => omega
              case c5 => omega
              intro v' w5 a1 a2 _
              rw [Hys.out] at a1
              obtain ⟨r1, r2⟩ := brow_put HrowU.out Hb2.out (by rw [hPl]) a1 a2
              have HR5 := Lib.hid r1
              have HB5 := Lib.hid r2
              clear a1 a2 r1 r2 HrowU
              obtain ⟨at2, hat2⟩ : ∃ at2 : Nat, at_ + k + m = at2 := ⟨_, rfl⟩
              have ha2 : (at_ : Int) + (k : Int) + (m : Int) = (at2 : Int) := by omega
              rw [hat2] at HSt3
              rw [ha2] at hw4
              have hal2 : at2 ≤ l.length := by omega
              have hacc : acc.length + m ≤ at2 := by omega
              have hmo : (acc.length : Int) + (m : Int) ≤ most := by omega
              have hn2 : l.length - at2 < n := by omega
              have hgt : at_ < at2 := by omega
              have HPl := Lib.hid hPl
              have Ha2 := Lib.hid ha2
              go_wp2
              clear ha2 hw4 hPl hysz hat2
              go_loopw [17, 8] (fun i u wr => ∃ (ii q : Nat), i = .int .i64 (ii : Int) ∧ u = .int .i64 (q : Int) ∧ q = at2 + ii ∧ q ≤ l.length ∧ BRow wr w.heap.size v' (acc ++ P) ∧ Below w.heap.size w wr ∧ (ii = 0 ∨ (ii = 1 ∧ ∃ h : at2 < l.length, l[at2] = 13) ∨ (ii = 2 ∧ (∃ h : at2 < l.length, l[at2] = 13) ∧ ∃ h : at2 + 1 < l.length, l[at2 + 1] = 10))) (fun i u _ => 2 - (intOf i).toNat)
              case atStart => exact ⟨0, at2, rfl, by first | rfl | (rw [← Ha2.out]; go_num) | go_num | (congr 1), by omega, by omega, HR5.out, HB5.out, .inl rfl⟩
              case round =>
                obtain ⟨ii, q, rfl, rfl, hq2, hql, hr5, hb5, hcase⟩ := hrel
                have HR6 := Lib.hid hr5
                have HB6 := Lib.hid hb5
                clear hr5 hb5
                have Hcase := Lib.hid hcase
                clear hcase
                rcases Hcase.out with rfl | ⟨rfl, h13, h13'⟩ | ⟨rfl, ⟨h13, h13'⟩, h10, h10'⟩
                · have hqv : at2 = q := by omega
                  subst hqv
                  clear hq2
                  by_cases hlt : at2 < l.length
                  · have hqz : ¬ z ≤ ((at2 : Nat) : Int) := by omega
                    obtain ⟨x, hxv⟩ : ∃ x : Nat, (l[at2]).toNat = x := ⟨_, rfl⟩
                    have i1 : ∀ W, (Instr.index 9 (S l) (.int .i64 ((at2 : Nat) : Int))).run Tryz.prog W = .ok (.int .u8 (x : Int)) W := fun W => index_str l (at2) hlt (x : Int) (by rw [hxv]) W
                    have i2 : ∀ W, (Instr.index 9 (.string ⟨#[13, 10]⟩) (.int .i64 0)).run Tryz.prog W = .ok (.int .u8 13) W := fun W => index_str [13, 10] 0 (by decide) 13 (by decide) W
                    have hwq : IntKind.i64.wrap (((at2 : Nat) : Int) + 1) = ((at2 : Nat) : Int) + 1 := by rw [IntKind.wrap_i64]; omega
                    obtain ⟨qq, hqq⟩ : ∃ qq : Int, ((at2 : Nat) : Int) = qq := ⟨_, rfl⟩
                    rw [hqq] at i1 hqz hwq ⊢
                    have Hqq := Lib.hid hqq
                    clear hqq
                    by_cases hx : l[at2] = 13
                    · have hx1 : x = 13 := by rw [← hxv, hx]; rfl
                      subst hx1
                      have h13 := hx
                      have Hn := Lib.hid (show ∃ h : at2 < l.length, l[at2] = 13 from ⟨hlt, h13⟩)
                      clear hx h13 hxv Hcase
                      go_wp2
                      go_quiet (fail)
                      go_wp2
                      go_roundw
                      case rel => exact ⟨1, at2 + 1, by first | rfl | go_num, by rw [← Hqq.out]; first | rfl | go_num, by omega, by omega, row_below HR6.out (below_drewN' _ _), HB6.out.trans ((below_drewN' _ _).mono HB6.out.size), .inr (.inl ⟨rfl, Hn.out⟩)⟩
                      case measure => simp [intOf]
                    · have hx1 : ¬ (x : Int) = 13 := fun e => hx (UInt8.toNat_inj.1 (by rw [hxv]; show x = 13; omega))
                      have hst := HSt3.out
                      have he : H.endR (l.drop at2) = .error 13 := by rw [List.drop_eq_getElem_cons hlt]; simp [H.endR, hx]
                      rw [he] at hst
                      simp only at hst
                      subst hst
                      clear hx hxv he Hcase
                      go_wp2
                      go_quiet (fail)
                      go_wp2
                      go_ret3
                      exact ⟨⟨[], 0, rfl⟩, HB6.out.trans ((below_drewN' _ _).mono HB6.out.size)⟩
                  · have hqz : z ≤ ((at2 : Nat) : Int) := by omega
                    have hst := HSt3.out
                    have he : H.endR (l.drop at2) = .error 14 := by rw [H.end_eq]; rw [List.drop_of_length_le (by omega)]
                    rw [he] at hst
                    simp only at hst
                    subst hst
                    obtain ⟨qq, hqq⟩ : ∃ qq : Int, ((at2 : Nat) : Int) = qq := ⟨_, rfl⟩
                    rw [hqq] at hqz ⊢
                    clear hqq
                    clear he Hcase
                    go_wp2
                    go_ret3
                    exact ⟨⟨[], 0, rfl⟩, HB6.out⟩
                · have hqv : at2 + 1 = q := by omega
                  subst hqv
                  clear hq2
                  by_cases hlt : at2 + 1 < l.length
                  · have hqz : ¬ z ≤ ((at2 + 1 : Nat) : Int) := by omega
                    obtain ⟨x, hxv⟩ : ∃ x : Nat, (l[at2 + 1]).toNat = x := ⟨_, rfl⟩
                    have i1 : ∀ W, (Instr.index 9 (S l) (.int .i64 ((at2 + 1 : Nat) : Int))).run Tryz.prog W = .ok (.int .u8 (x : Int)) W := fun W => index_str l (at2 + 1) hlt (x : Int) (by rw [hxv]) W
                    have i2 : ∀ W, (Instr.index 9 (.string ⟨#[13, 10]⟩) (.int .i64 1)).run Tryz.prog W = .ok (.int .u8 10) W := fun W => index_str [13, 10] 1 (by decide) 10 (by decide) W
                    have hwq : IntKind.i64.wrap (((at2 + 1 : Nat) : Int) + 1) = ((at2 + 1 : Nat) : Int) + 1 := by rw [IntKind.wrap_i64]; omega
                    obtain ⟨qq, hqq⟩ : ∃ qq : Int, ((at2 + 1 : Nat) : Int) = qq := ⟨_, rfl⟩
                    rw [hqq] at i1 hqz hwq ⊢
                    have Hqq := Lib.hid hqq
                    clear hqq
                    by_cases hx : l[at2 + 1] = 10
                    · have hx1 : x = 10 := by rw [← hxv, hx]; rfl
                      subst hx1
                      have h10 := hx
                      have Hn := Lib.hid (show ∃ h : at2 + 1 < l.length, l[at2 + 1] = 10 from ⟨hlt, h10⟩)
                      have H13 := Lib.hid (show ∃ h : at2 < l.length, l[at2] = 13 from ⟨h13, h13'⟩)
                      clear hx h10 hxv Hcase
                      go_wp2
                      go_quiet (fail)
                      go_wp2
                      go_roundw
                      case rel => exact ⟨2, at2 + 1 + 1, by first | rfl | go_num, by rw [← Hqq.out]; first | rfl | go_num, by omega, by omega, row_below HR6.out (below_drewN' _ _), HB6.out.trans ((below_drewN' _ _).mono HB6.out.size), .inr (.inr ⟨rfl, H13.out, Hn.out⟩)⟩
                      case measure => simp [intOf]
                    · have hx1 : ¬ (x : Int) = 10 := fun e => hx (UInt8.toNat_inj.1 (by rw [hxv]; show x = 10; omega))
                      have hst := HSt3.out
                      have he : H.endR (l.drop at2) = .error 13 := by rw [List.drop_eq_getElem_cons h13, h13', List.drop_eq_getElem_cons hlt]; simp [H.endR, hx]
                      rw [he] at hst
                      simp only at hst
                      subst hst
                      clear hx hxv he Hcase
                      go_wp2
                      go_quiet (fail)
                      go_wp2
                      go_ret3
                      exact ⟨⟨[], 0, rfl⟩, HB6.out.trans ((below_drewN' _ _).mono HB6.out.size)⟩
                  · have hqz : z ≤ ((at2 + 1 : Nat) : Int) := by omega
                    have hst := HSt3.out
                    have he : H.endR (l.drop at2) = .error 14 := by rw [List.drop_eq_getElem_cons h13, h13', List.drop_of_length_le (by omega)]; rfl
                    rw [he] at hst
                    simp only at hst
                    subst hst
                    obtain ⟨qq, hqq⟩ : ∃ qq : Int, ((at2 + 1 : Nat) : Int) = qq := ⟨_, rfl⟩
                    rw [hqq] at hqz ⊢
                    clear hqq
                    clear he Hcase
                    go_wp2
                    go_ret3
                    exact ⟨⟨[], 0, rfl⟩, HB6.out⟩
                · have hqv : at2 + 2 = q := by omega
                  subst hqv
                  clear hq2
                  have he : H.endR (l.drop at2) = .ok ((), l.drop (at2 + 2)) := by rw [List.drop_eq_getElem_cons h13, h13', List.drop_eq_getElem_cons h10, h10']; rfl
                  have hst := HSt3.out
                  rw [he] at hst
                  simp only at hst
                  have HSt4 := Lib.hid hst
                  obtain ⟨qq, hqq⟩ : ∃ qq : Int, ((at2 + 2 : Nat) : Int) = qq := ⟨_, rfl⟩
                  rw [hqq]
                  have Hqq := Lib.hid hqq
                  clear he hst Hcase h13' h10' hqq
                  have hg2 : l.length - (at2 + 2) < l.length - at_ := by omega
                  have Hg2 := Lib.hid hg2
                  clear hg2
                  go_wp2
                  go_roundw
                  case rel => exact ⟨n, at2 + 2, acc ++ P, by rw [← Hqq.out], by omega, HR6.out, by rw [List.length_append, HPl.out]; omega, by rw [List.length_append, HPl.out]; omega, HSt4.out, by omega, HB6.out⟩
                  case measure => rw [← Hqq.out]; have := Hg2.out; simp only [intOf]; omega
            · rw [if_pos (by omega)] at Hst
              simp only at Hst
              subst Hst
              have b5 : z - ((at_ : Int) + (k : Int)) < (m : Int) := by omega
              go_wp2
              go_ret3
              exact ⟨⟨[], 0, rfl⟩, Hb2.out⟩
end Go.Proofs.YtjkinjfbjbehjaaGreatDoor

/- HTTP: THE DOCUMENT'S OWN body. -/
namespace Go.Proofs.YtjkinjfbjbehjaaGreatDoor
open Go.RowKit
set_option maxRecDepth 100000
set_option linter.unusedVariables false
set_option linter.unusedSimpArgs false

/-- digits, read on -/
def H.dF : Nat → H.T → Option Nat
  | n, [] => some n
  | n, b :: t => if H.digit b.toNat then H.dF (10 * n + (b.toNat - 48)) t else none
theorem H.dF_parse : ∀ (l : H.T) (acc : Nat), acc * 10 ^ l.length + 10 ^ l.length ≤ 1000000000 → (match H.dF acc l with | some n => Lib.parseUintM 18446744073709551615 acc l = .ok n | none => ∀ n, Lib.parseUintM 18446744073709551615 acc l ≠ .ok n)
  | [], acc, _ => by simp [H.dF, Lib.parseUintM]
  | b :: t, acc, h => by
    have hb := b.toNat_lt
    rw [List.length_cons, Nat.pow_succ] at h
    have hp : 1 ≤ 10 ^ t.length := Nat.pos_of_ne_zero (by simp)
    simp only [H.dF, Lib.parseUintM]
    by_cases hd : H.digit b.toNat = true
    · rw [if_pos hd]
      unfold H.digit at hd
      simp only [Bool.and_eq_true, decide_eq_true_eq] at hd
      have hacc : acc ≤ 1000000000 := by
        have : acc * 1 ≤ acc * (10 ^ t.length * 10) := Nat.mul_le_mul_left _ (by omega)
        omega
      have ih := H.dF_parse t (10 * acc + (b.toNat - 48)) (by
        have e1 : (10 * acc + (b.toNat - 48)) * 10 ^ t.length ≤ (10 * acc + 9) * 10 ^ t.length := Nat.mul_le_mul_right _ (by omega)
        have e2 : (10 * acc + 9) * 10 ^ t.length + 10 ^ t.length = acc * (10 ^ t.length * 10) + 10 ^ t.length * 10 := by
          rw [Nat.add_mul, Nat.mul_comm 10 acc, Nat.mul_assoc, Nat.mul_comm 10 (10 ^ t.length)]
          omega
        omega)
      rw [if_pos (by omega), if_neg (by omega), if_neg (by omega), Nat.mul_comm acc 10]
      exact ih
    · rw [if_neg hd]
      have : ¬ (48 ≤ b.toNat ∧ b.toNat ≤ 57) := fun h => hd (by unfold H.digit; simp; omega)
      intro n
      rw [if_neg this]
      intro h; cases h
theorem H.whole_dF (v : H.T) (hv : v.length ≤ 9) (hne : v ≠ []) : H.whole10 v 9 = match H.dF 0 v with | some n => .ok n | none => .error 13 := by
  have h := H.dF_parse v 0 (by
    have : (10 : Nat) ^ v.length ≤ 10 ^ 9 := Nat.pow_le_pow_right (by omega) hv
    have h9 : (10 : Nat) ^ 9 = 1000000000 := rfl
    omega)
  unfold H.whole10 H.wholeO H.decO Lib.parseUintB
  rw [if_pos hv, if_neg hne, show (2 ^ 64 - 1 : Nat) = 18446744073709551615 from rfl]
  cases hd : H.dF 0 v with
  | some n =>
    rw [hd] at h
    simp only at h
    rw [h]
  | none =>
    rw [hd] at h
    simp only at h
    cases hp : Lib.parseUintM 18446744073709551615 0 v with
    | ok u => exact absurd hp (h u)
    | «syntax» => rfl
    | range => rfl
theorem H.whole_no (v : H.T) (h : v = [] ∨ 9 < v.length) : H.whole10 v 9 = .error 13 := by
  unfold H.whole10 H.wholeO
  rcases h with rfl | h
  · rfl
  · rw [if_neg (by omega)]
theorem H.dF_lt : ∀ (l : H.T) (acc n : Nat), H.dF acc l = some n → n < (acc + 1) * 10 ^ l.length
  | [], acc, n, h => by simp only [H.dF, Option.some.injEq] at h; subst h; simp
  | b :: t, acc, n, h => by
    simp only [H.dF] at h
    split at h
    · rename_i hd
      unfold H.digit at hd
      simp only [Bool.and_eq_true, decide_eq_true_eq] at hd
      have := H.dF_lt t _ n h
      refine Nat.lt_of_lt_of_le this ?_
      rw [List.length_cons, Nat.pow_succ, Nat.mul_comm (10 ^ t.length) 10, ← Nat.mul_assoc]
      exact Nat.mul_le_mul_right _ (by omega)
    · cases h
theorem H.dF_app : ∀ (a b : H.T) (n m : Nat), H.dF n a = some m → H.dF n (a ++ b) = H.dF m b
  | [], b, n, m, h => by simp only [H.dF, Option.some.injEq] at h; rw [← h]; rfl
  | c :: t, b, n, m, h => by
    simp only [H.dF, List.cons_append] at h ⊢
    split at h
    · rename_i hd
      rw [if_pos hd]
      exact H.dF_app t b _ m h
    · cases h
/-- the lengths and the codings of heads -/
def H.lensOf (hs : List H.Hd) : List H.T := (hs.filter (fun h => H.alike h.name H.lengthN)).map H.Hd.value
def H.codsOf (hs : List H.Hd) : List H.T := (hs.filter (fun h => H.alike h.name H.codingN)).map H.Hd.value
theorem H.lens_at (hs : List H.Hd) (j : Nat) (x : H.Hd) (hx : hs[j]? = some x) : H.lensOf (hs.take (j + 1)) = H.lensOf (hs.take j) ++ (if H.alike x.name H.lengthN then [x.value] else []) := by
  unfold H.lensOf
  rw [List.take_add_one, hx, List.filter_append, List.map_append]
  cases h : H.alike x.name H.lengthN <;> simp [h]
theorem H.cods_at (hs : List H.Hd) (j : Nat) (x : H.Hd) (hx : hs[j]? = some x) : H.codsOf (hs.take (j + 1)) = H.codsOf (hs.take j) ++ (if H.alike x.name H.codingN then [x.value] else []) := by
  unfold H.codsOf
  rw [List.take_add_one, hx, List.filter_append, List.map_append]
  cases h : H.alike x.name H.codingN <;> simp [h]
/-- what the document's body reads -/
def H.bodyD (must : Bool) (most : Int) (hs : List H.Hd) (l : H.T) : H.R H.T := if must && decide ((H.lensOf hs).length + (H.codsOf hs).length = 0) then .error 13 else H.body most (H.frOf hs) l
theorem H.low_chunk (v : H.T) : (H.low v = [99, 104, 117, 110, 107, 101, 100]) ↔ H.alike v H.chunkedN = true := by
  rw [← H.low_alike]; rfl
theorem last_app (l : List H.T) (x : H.T) : (l ++ [x]).getLastD [] = x := by simp
def DShort (hs : List H.Hd) : Prop := ∀ h ∈ hs, h.name.length ≤ 1000000000 ∧ h.value.length ≤ 1000000000
set_option maxHeartbeats 8000000 in
theorem dbody_any (w : World) (l : H.T) (hs : List H.Hd) (ad : Option Addr) (cap : Nat) (most : Int) (must : Bool) (hm : H.okMost most) (hl : l.length ≤ 1000000000) (hH : Hds w ad hs) (hsh : DShort hs) (hmx : hs.length ≤ 1000000000) :
    Calls Tryz.prog 66 #[S l, .slice ad hs.length cap, .int .i64 most, .bool must] w fun e w' => ChD l (H.bodyD must most hs l) e ∧ Below w.heap.size w w' := by
  obtain ⟨z, hz⟩ : ∃ z : Int, ((hs.length : Nat) : Int) = z := ⟨_, rfl⟩
  obtain ⟨y, hy⟩ : ∃ y : Int, ((l.length : Nat) : Int) = y := ⟨_, rfl⟩
  have Hm := Lib.hid hm
  obtain ⟨hm0, hm1⟩ := hm
  have HH := Lib.hid hH
  have Hsh := Lib.hid hsh
  obtain ⟨R, hR⟩ : ∃ R, H.bodyD must most hs l = R := ⟨_, rfl⟩
  have HR := Lib.hid hR
  rw [hR]
  clear hR hH hsh
  go_enter Tryz.func66, Tryz.ntmps66
  go_wp2
  go_loopw [11, 12, 13, 14, 21] (fun a b c d u wr => ∃ j : Nat, u = .int .i64 (j : Int) ∧ j ≤ hs.length ∧ a = .int .i64 (((H.lensOf (hs.take j)).length : Nat) : Int) ∧ b = .int .i64 (((H.codsOf (hs.take j)).length : Nat) : Int) ∧ c = S ((H.lensOf (hs.take j)).getLastD []) ∧ d = S (H.low ((H.codsOf (hs.take j)).getLastD [])) ∧ (H.lensOf (hs.take j)).length ≤ j ∧ (H.codsOf (hs.take j)).length ≤ j ∧ Below w.heap.size w wr) (fun a b c d u _ => hs.length - (intOf u).toNat)
  case atStart => exact ⟨0, rfl, Nat.zero_le _, rfl, rfl, rfl, rfl, by simp [H.lensOf], by simp [H.codsOf], Below.refl _ _⟩
  case round =>
    obtain ⟨j, rfl, hj, rfl, rfl, rfl, rfl, hb1, hb2, hb⟩ := hrel
    have Hb := Lib.hid hb
    clear hb
    by_cases hlt : j < hs.length
    · have hjz : (j : Int) < z := by omega
      have hne : hs ≠ [] := by rintro rfl; simp at hlt
      obtain ⟨g1, o1, rfl, _, k1⟩ := (HH.out.under Hb.out) hne
      obtain ⟨x, hx⟩ : ∃ x, hs[j]? = some x := ⟨_, List.getElem?_eq_getElem hlt⟩
      obtain ⟨p1, p2⟩ := k1 j x hx
      obtain ⟨s1, s2⟩ := Hsh.out x (List.mem_of_getElem? hx)
      have hl1 := H.lens_at hs j x hx
      have hc1 := H.cods_at hs j x hx
      obtain ⟨LJ, hLJ⟩ : ∃ LJ, H.lensOf (hs.take j) = LJ := ⟨_, rfl⟩
      obtain ⟨CJ, hCJ⟩ : ∃ CJ, H.codsOf (hs.take j) = CJ := ⟨_, rfl⟩
      rw [hLJ] at hl1 hb1 ⊢
      rw [hCJ] at hc1 hb2 ⊢
      have hw1 : IntKind.i64.wrap (((LJ.length : Nat) : Int) + 1) = ((LJ.length : Nat) : Int) + 1 := by rw [IntKind.wrap_i64]; omega
      have hw2 : IntKind.i64.wrap (((CJ.length : Nat) : Int) + 1) = ((CJ.length : Nat) : Int) + 1 := by rw [IntKind.wrap_i64]; omega
      have hlow := fun W => low_any W x.name (by omega)
      have hlow2 := fun W => low_any W x.value (by omega)
      have q1 := H.low_len x.name
      have q2 := H.low_cod x.name
      obtain ⟨LN, hLN⟩ : ∃ LN, H.low x.name = LN := ⟨_, rfl⟩
      rw [hLN] at hlow q1 q2
      obtain ⟨Y, hY⟩ : ∃ Y, Y = wr.alloc (.cells #[S x.name, S x.value] 73) := ⟨_, rfl⟩
      have hyk : Y.heap[wr.heap.size]? = some (.cells #[S x.name, S x.value] 73 (0, 0)) := by rw [hY]; exact blk_new wr _
      have hbY : Below wr.heap.size wr Y := by rw [hY]; exact (Below.refl _ wr).alloc (Nat.le_refl _) _
      have HbY := Lib.hid (Hb.out.trans (hbY.mono Hb.out.size))
      obtain ⟨c0, c1⟩ := box2 hyk
      have lc := blk_lt hyk
      have Hyk := Lib.hid hyk
      clear k1 hx hLN hbY hyk hLJ hCJ
      by_cases t1 : LN = [99, 111, 110, 116, 101, 110, 116, 45, 108, 101, 110, 103, 116, 104]
      · have a1 := q1.1 t1
        have a2 := H.not_both _ a1
        rw [a1, if_pos rfl] at hl1
        rw [a2, if_neg (by decide), List.append_nil] at hc1
        have Hl1 := Lib.hid hl1
        have Hc1 := Lib.hid hc1
        subst t1
        clear q1 q2 a1 a2 hl1 hc1 hlow2
        go_upto_region 6 with (fail)
        rw [← hY]
        clear hY
        go_wp2_with fail
        refine (hlow _).mono ?_
        rintro e w2 ⟨rfl, hb2'⟩
        have HbZ := Lib.hid (HbY.out.trans (hb2'.mono HbY.out.size))
        obtain ⟨d0, d1⟩ := box2 (blk_under Hyk.out hb2')
        have ld := blk_lt (blk_under Hyk.out hb2')
        clear hb2' c0 c1 lc
        go_wp2
        go_roundw
        case rel => exact ⟨j + 1, by go_num, by omega, by rw [Hl1.out, List.length_append]; go_num, by rw [Hc1.out], by rw [Hl1.out, last_app], by rw [Hc1.out, List.getLastD_eq_getLast?], by rw [Hl1.out, List.length_append]; simp; omega, by rw [Hc1.out]; omega, HbZ.out⟩
        case measure => simp [intOf]; omega
      · have t1' : (LN == [99, 111, 110, 116, 101, 110, 116, 45, 108, 101, 110, 103, 116, 104]) = false := by simpa using t1
        have a1 : H.alike x.name H.lengthN = false := by cases h : H.alike x.name H.lengthN with | false => rfl | true => exact absurd (q1.2 h) t1
        rw [a1, if_neg (by decide), List.append_nil] at hl1
        have Hl1 := Lib.hid hl1
        by_cases t2 : LN = [116, 114, 97, 110, 115, 102, 101, 114, 45, 101, 110, 99, 111, 100, 105, 110, 103]
        · have a2 := q2.1 t2
          rw [a2, if_pos rfl] at hc1
          have Hc1 := Lib.hid hc1
          subst t2
          clear q1 q2 a1 a2 hl1 hc1 t1 t1'
          go_upto_region 6 with (fail)
          rw [← hY]
          clear hY
          go_wp2_with fail
          with_reducible refine (hlow _).mono ?_
          rintro e w2 ⟨rfl, hb2'⟩
          have HbZ := Lib.hid (HbY.out.trans (hb2'.mono HbY.out.size))
          obtain ⟨d0, d1⟩ := box2 (blk_under Hyk.out hb2')
          have ld := blk_lt (blk_under Hyk.out hb2')
          clear hb2' c0 c1 lc
          go_wp2_with fail
          with_reducible refine (hlow2 _).mono ?_
          rintro e w3 ⟨rfl, hb3'⟩
          have HbV := Lib.hid (HbZ.out.trans (hb3'.mono HbZ.out.size))
          clear hb3' d0 d1 ld
          go_wp2
          go_roundw
          case rel => exact ⟨j + 1, by go_num, by omega, by rw [Hl1.out], by rw [Hc1.out, List.length_append]; go_num, by rw [Hl1.out, List.getLastD_eq_getLast?], by rw [Hc1.out, last_app], by rw [Hl1.out]; omega, by rw [Hc1.out, List.length_append]; simp; omega, HbV.out⟩
          case measure => simp [intOf]; omega
        · have t2' : (LN == [116, 114, 97, 110, 115, 102, 101, 114, 45, 101, 110, 99, 111, 100, 105, 110, 103]) = false := by simpa using t2
          have a2 : H.alike x.name H.codingN = false := by cases h : H.alike x.name H.codingN with | false => rfl | true => exact absurd (q2.2 h) t2
          rw [a2, if_neg (by decide), List.append_nil] at hc1
          have Hc1 := Lib.hid hc1
          clear q1 q2 a1 a2 hl1 hc1 t1 t2 hlow2
          go_upto_region 6 with (fail)
          rw [← hY]
          clear hY
          go_wp2_with fail
          refine (hlow _).mono ?_
          rintro e w2 ⟨rfl, hb2'⟩
          have HbZ := Lib.hid (HbY.out.trans (hb2'.mono HbY.out.size))
          clear hb2' c0 c1 lc
          go_wp2
          go_roundw
          case rel => exact ⟨j + 1, by go_num, by omega, by rw [Hl1.out], by rw [Hc1.out], by rw [Hl1.out, List.getLastD_eq_getLast?], by rw [Hc1.out, List.getLastD_eq_getLast?], by rw [Hl1.out]; omega, by rw [Hc1.out]; omega, HbZ.out⟩
          case measure => simp [intOf]; omega
    · have hjz : ¬ (j : Int) < z := by omega
      have htk : hs.take j = hs := List.take_of_length_le (by omega)
      rw [htk] at hb1 hb2 ⊢
      have hBD := HR.out
      unfold H.bodyD H.body at hBD
      have f1 : (H.frOf hs).lens = H.lensOf hs := rfl
      have f2 : (H.frOf hs).cods = H.codsOf hs := rfl
      rw [f1, f2] at hBD
      obtain ⟨LJ, hLJ⟩ : ∃ LJ, H.lensOf hs = LJ := ⟨_, rfl⟩
      obtain ⟨CJ, hCJ⟩ : ∃ CJ, H.codsOf hs = CJ := ⟨_, rfl⟩
      rw [hLJ, hCJ] at hBD
      have hvl : (LJ.getLastD []).length ≤ 1000000000 := by
        rw [← hLJ]
        unfold H.lensOf
        cases hh : ((hs.filter (fun h => H.alike h.name H.lengthN)).map H.Hd.value).getLast? with
        | none => rw [List.getLastD_eq_getLast?, hh]; simp
        | some v =>
          rw [List.getLastD_eq_getLast?, hh]
          have hm := List.mem_of_getLast? hh
          obtain ⟨h, hm1, rfl⟩ := List.mem_map.1 hm
          exact (Hsh.out h (List.mem_filter.1 hm1).1).2
      rw [hLJ] at hb1 ⊢
      rw [hCJ] at hb2 ⊢
      have HBD := Lib.hid hBD
      clear f1 f2 hLJ hCJ hBD htk
      obtain ⟨lz, hlz⟩ : ∃ lz : Int, ((LJ.length : Nat) : Int) = lz := ⟨_, rfl⟩
      obtain ⟨cz, hcz⟩ : ∃ cz : Int, ((CJ.length : Nat) : Int) = cz := ⟨_, rfl⟩
      rw [hlz, hcz]
      by_cases hc0 : 0 < CJ.length
      · have hc0' : 0 < cz := by omega
        have hBD := HBD.out
        rw [show (must && decide (LJ.length + CJ.length = 0)) = false from by rw [show decide (LJ.length + CJ.length = 0) = false from decide_eq_false (by omega)]; simp] at hBD
        simp only [Bool.false_eq_true, if_false] at hBD
        rw [if_pos hc0] at hBD
        by_cases hc1 : 1 < CJ.length
        · have hc1' : 1 < cz := by omega
          rw [if_neg (by omega)] at hBD
          subst hBD
          go_wp2
          go_ret3
          exact ⟨⟨[], 0, rfl⟩, Hb.out⟩
        · have hc1' : ¬ 1 < cz := by omega
          have hlast : CJ.getLastD [] = CJ.headD [] := by
            match CJ, hc0, hc1 with
            | [a], _, _ => rfl
            | a :: b :: t, _, h => exact absurd (by simp) h
          rw [hlast]
          have qc := H.low_chunk (CJ.headD [])
          obtain ⟨CL, hCL⟩ : ∃ CL, H.low (CJ.headD []) = CL := ⟨_, rfl⟩
          rw [hCL] at qc ⊢
          by_cases t3 : CL = [99, 104, 117, 110, 107, 101, 100]
          · have a3 := qc.1 t3
            subst t3
            by_cases hl0 : 0 < LJ.length
            · have hl0' : 0 < lz := by omega
              rw [if_neg (by omega)] at hBD
              subst hBD
              clear qc a3 hlast hCL
              go_wp2
              go_ret3
              exact ⟨⟨[], 0, rfl⟩, Hb.out⟩
            · have hl0' : ¬ 0 < lz := by omega
              rw [if_pos ⟨by omega, a3, by omega⟩] at hBD
              have hch := dchunks_any wr l most Hm.out hl
              rw [hBD] at hch
              clear qc a3 hlast hCL hBD HBD HR Hm
              go_wp2_with fail
              refine hch.mono ?_
              rintro e w2 ⟨hcd, hb2'⟩
              have HbZ := Lib.hid (Hb.out.trans (hb2'.mono Hb.out.size))
              clear hb2' hch
              cases R with
              | ok p =>
                obtain ⟨b, r⟩ := p
                have he : e = .returned (.tuple #[S b, .int .i64 ((l.length - r.length : Nat) : Int), .int .i64 0]) := hcd
                subst he
                go_wp2
                go_ret3
                exact ⟨rfl, HbZ.out⟩
              | error c =>
                obtain ⟨x, yy, he⟩ := hcd
                subst he
                go_wp2
                go_ret3
                exact ⟨⟨x, yy, rfl⟩, HbZ.out⟩
          · have t3' : (CL != [99, 104, 117, 110, 107, 101, 100]) = true := by simpa using t3
            have t3'' : (CL == [99, 104, 117, 110, 107, 101, 100]) = false := by simpa using t3
            have a3 : ¬ H.alike (CJ.headD []) H.chunkedN = true := fun h => t3 (qc.2 h)
            rw [if_neg (fun h => a3 h.2.1)] at hBD
            subst hBD
            clear qc a3 hlast hCL
            go_wp2
            go_ret3
            exact ⟨⟨[], 0, rfl⟩, Hb.out⟩
      · have hc0' : ¬ 0 < cz := by omega
        have hcl : CJ.length = 0 := by omega
        have hBD := HBD.out
        rw [hcl, Nat.add_zero, if_neg (by omega : ¬ 0 < 0)] at hBD
        by_cases hl0 : LJ.length = 0
        · have hl0' : lz = 0 := by omega
          rw [hl0, if_neg (by omega : ¬ 0 < 0)] at hBD
          subst hl0'
          cases must with
          | false =>
            simp only [Bool.false_and, Bool.false_eq_true, if_false] at hBD
            subst hBD
            go_wp2
            go_ret3
            exact ⟨by show Ending.returned _ = _; simp, Hb.out⟩
          | true =>
            simp only [decide_true, Bool.and_true, if_true] at hBD
            subst hBD
            go_wp2
            go_ret3
            exact ⟨⟨[], 0, rfl⟩, Hb.out⟩
        · have hl0' : ¬ lz = 0 := by omega
          have hl0b : (lz == 0) = false := by simpa using hl0'
          rw [show (must && decide (LJ.length = 0)) = false from by rw [show decide (LJ.length = 0) = false from decide_eq_false (by omega)]; simp] at hBD
          simp only [Bool.false_eq_true, if_false] at hBD
          rw [if_pos (by omega)] at hBD
          by_cases hl1 : LJ.length = 1
          · have hl1' : lz = 1 := by omega
            subst hl1'
            have hlast : LJ.getLastD [] = LJ.headD [] := by
              match LJ, hl1 with
              | [a], _ => rfl
            rw [hlast] at hvl ⊢
            rw [if_pos hl1] at hBD
            obtain ⟨v, hv⟩ : ∃ v, LJ.headD [] = v := ⟨_, rfl⟩
            rw [hv] at hBD hvl ⊢
            clear hlast hv
            obtain ⟨vz, hvz⟩ : ∃ vz : Int, ((v.length : Nat) : Int) = vz := ⟨_, rfl⟩
            by_cases hv0 : v = []
            · subst hv0
              rw [H.whole_no [] (.inl rfl)] at hBD
              simp only at hBD
              subst hBD
              go_wp2
              go_ret3
              exact ⟨⟨[], 0, rfl⟩, Hb.out⟩
            · have hie : v.isEmpty = false := by cases v with | nil => exact absurd rfl hv0 | cons => rfl
              by_cases hv9 : 9 < v.length
              · have hv9' : 9 < vz := by omega
                rw [H.whole_no v (.inr hv9)] at hBD
                simp only at hBD
                subst hBD
                go_wp2
                go_ret3
                exact ⟨⟨[], 0, rfl⟩, Hb.out⟩
              · have hv9' : ¬ 9 < vz := by omega
                rw [H.whole_dF v (by omega) hv0] at hBD
                have HBD2 := Lib.hid hBD
                clear hBD
                go_wp2
                go_loopw [17, 18] (fun s u wr => ∃ i n : Nat, u = .int .i64 (i : Int) ∧ i ≤ v.length ∧ s = .int .i64 (n : Int) ∧ H.dF 0 (v.take i) = some n ∧ Below w.heap.size w wr) (fun s u _ => v.length - (intOf u).toNat)
                case atStart => exact ⟨0, 0, rfl, Nat.zero_le _, rfl, rfl, Hb.out⟩
                case round =>
                  obtain ⟨i, n, rfl, hi, rfl, hdn, hb⟩ := hrel
                  have Hdn := Lib.hid hdn
                  have Hbb := Lib.hid hb
                  have hnl : n < 1000000000 := by
                    have h := H.dF_lt _ _ _ hdn
                    have h2 : (10 : Nat) ^ (v.take i).length ≤ 10 ^ 9 := Nat.pow_le_pow_right (by omega) (by rw [List.length_take]; omega)
                    have h3 : (10 : Nat) ^ 9 = 1000000000 := rfl
                    omega
                  clear hdn hb
                  by_cases hlt2 : i < v.length
                  · have hiz : (i : Int) < vz := by omega
                    obtain ⟨c, hcc⟩ : ∃ c : Nat, v[i].toNat = c := ⟨_, rfl⟩
                    have hc256 : c < 256 := by rw [← hcc]; exact v[i].toNat_lt
                    have i1 := fun W => index_str v i hlt2 (c : Int) (by rw [hcc]) W
                    have hdg := fun W => csy (ddigit W c hc256)
                    have Hcc := Lib.hid hcc
                    clear hcc
                    cases hd : H.digit c with
                    | false =>
                      rw [hd] at hdg
                      have hno : H.dF 0 v = none := by
                        have e : v = v.take i ++ v[i] :: v.drop (i + 1) := by conv => lhs; rw [← List.take_append_drop i v, List.drop_eq_getElem_cons hlt2]
                        rw [e, H.dF_app _ _ _ _ Hdn.out]
                        simp only [H.dF]
                        rw [if_neg (by rw [Hcc.out, hd]; decide)]
                      have hBD := HBD2.out
                      rw [hno] at hBD
                      simp only at hBD
                      subst hBD
                      clear hd hno
                      go_wp2_with (refine (hdg _).mono ?_; rintro e w2 ⟨rfl, rfl⟩)
                      go_ret3
                      exact ⟨⟨[], 0, rfl⟩, Hbb.out⟩
                    | true =>
                      rw [hd] at hdg
                      have hd2 := hd
                      unfold H.digit at hd2
                      simp only [Bool.and_eq_true, decide_eq_true_eq] at hd2
                      obtain ⟨k1, k2⟩ := hd2
                      have hn2 : H.dF 0 (v.take (i + 1)) = some (10 * n + (c - 48)) := by
                        rw [H.take_at v i hlt2, H.dF_app _ _ _ _ Hdn.out]
                        simp only [H.dF]
                        rw [if_pos (by rw [Hcc.out, hd]), Hcc.out]
                      have Hn2 := Lib.hid hn2
                      have w1 : IntKind.u8.wrap ((c : Int) - 48) = (c : Int) - 48 := by rw [IntKind.wrap_u8]; omega
                      have w2 : IntKind.i64.wrap ((c : Int) - 48) = (c : Int) - 48 := by rw [IntKind.wrap_i64]; omega
                      have w3 : IntKind.i64.wrap (10 * (n : Int)) = 10 * (n : Int) := by rw [IntKind.wrap_i64]; omega
                      have w4 : IntKind.i64.wrap (10 * (n : Int) + ((c : Int) - 48)) = 10 * (n : Int) + ((c : Int) - 48) := by rw [IntKind.wrap_i64]; omega
                      have w5 : IntKind.i64.wrap ((i : Int) + 1) = (i : Int) + 1 := by rw [IntKind.wrap_i64]; omega
                      clear hd hn2
                      go_wp2_with (refine (hdg _).mono ?_; rintro e w2 ⟨rfl, rfl⟩)
                      go_roundw
                      case rel => exact ⟨i + 1, 10 * n + (c - 48), by go_num, by omega, by first | go_num | (congr 1; omega), Hn2.out, Hbb.out⟩
                      case measure => simp [intOf]; omega
                  · have hiz : ¬ (i : Int) < vz := by omega
                    have hdv := Hdn.out
                    rw [List.take_of_length_le (by omega)] at hdv
                    have hBD := HBD2.out
                    rw [hdv] at hBD
                    simp only at hBD
                    unfold H.part at hBD
                    clear hdv
                    by_cases hn4 : most < (n : Int)
                    · rw [if_pos (by simp; omega)] at hBD
                      subst hBD
                      go_wp2
                      go_ret3
                      exact ⟨⟨[], 0, rfl⟩, Hbb.out⟩
                    · rw [if_neg (by simp; omega)] at hBD
                      by_cases hn14 : n ≤ l.length
                      · rw [if_neg (by omega)] at hBD
                        have b5 : ¬ y < (n : Int) := by omega
                        have b6 : (n : Int) ≤ y := by omega
                        have b7 : (0 : Int) ≤ (n : Int) := by omega
                        have e1 : (⟨l.toArray⟩ : ByteArray).extract 0 n = ⟨(l.take n).toArray⟩ := ext_take l n
                        have hfin : (n : Int) = ((l.length - (l.drop n).length : Nat) : Int) := by rw [List.length_drop]; omega
                        have Hfin := Lib.hid hfin
                        subst hBD
                        clear hfin
                        go_wp2
                        go_ret3
                        exact ⟨by show Ending.returned _ = _; rw [← Hfin.out]; rfl, Hbb.out⟩
                      · rw [if_pos (by omega)] at hBD
                        have b5 : y < (n : Int) := by omega
                        subst hBD
                        go_wp2
                        go_ret3
                        exact ⟨⟨[], 0, rfl⟩, Hbb.out⟩
          · have hl1' : ¬ lz = 1 := by omega
            have hl1b : (lz != 1) = true := by simpa using hl1'
            have hl1c : (lz == 1) = false := by simpa using hl1'
            rw [if_neg hl1] at hBD
            subst hBD
            go_wp2
            go_ret3
            exact ⟨⟨[], 0, rfl⟩, Hb.out⟩
end Go.Proofs.YtjkinjfbjbehjaaGreatDoor

/- HTTP: THE DOCUMENT'S OWN all. -/
namespace Go.Proofs.YtjkinjfbjbehjaaGreatDoor
open Go.RowKit
set_option maxRecDepth 100000
set_option linter.unusedVariables false
set_option linter.unusedSimpArgs false

theorem H.rdF_short : ∀ (n : Nat) (acc : List H.Hd) (l : H.T) (hs : List H.Hd) (r : H.T), H.rdF n acc l = .ok (hs, r) → (∀ h ∈ acc, h.name.length ≤ 4098 ∧ h.value.length ≤ 4098) → (∀ h ∈ hs, h.name.length ≤ 4098 ∧ h.value.length ≤ 4098) ∧ hs.length ≤ acc.length + l.length
  | 0, _, _, _, _, h, _ => by cases h
  | n + 1, acc, l, hs, r, h, ha => by
    simp only [H.rdF] at h
    cases hl : H.line l with
    | error e => rw [hl] at h; cases h
    | ok p =>
      obtain ⟨t, r1⟩ := p
      have hlen := H.line_len hl
      rw [hl] at h
      simp only at h
      split at h
      · injection h with h; injection h with h1 h2; subst h1; exact ⟨ha, by omega⟩
      · split at h
        · cases h
        · rename_i x hx
          split at h
          · cases h
          · have hn := H.head_name hx
            have hv := H.head_val hx
            have := H.rdF_short n _ r1 hs r h (fun y hy => by
              rcases List.mem_append.1 hy with q | q
              · exact ha y q
              · rw [List.mem_singleton.1 q]; exact ⟨by omega, by omega⟩)
            rw [List.length_append] at this
            exact ⟨this.1, by have := this.2; simp at this; omega⟩
theorem H.rd_short {l r : H.T} {hs : List H.Hd} (h : H.rd l = .ok (hs, r)) : (∀ h ∈ hs, h.name.length ≤ 4098 ∧ h.value.length ≤ 4098) ∧ hs.length ≤ l.length := by
  have := H.rdF_short _ _ _ _ _ h (by simp)
  simpa using this
theorem H.plain_at (hs : List H.Hd) (j : Nat) (x : H.Hd) (hx : hs[j]? = some x) : H.plain (hs.take (j + 1)) = H.plain (hs.take j) ++ (if H.framing x.name then [] else [x]) := by
  unfold H.plain
  rw [List.take_add_one, hx, List.filter_append]
  cases h : H.framing x.name <;> simp [h]
theorem H.plain_le (hs : List H.Hd) : (H.plain hs).length ≤ hs.length := List.length_filter_le _ _
theorem H.rd_len {l r : H.T} {hs : List H.Hd} (h : H.rd l = .ok (hs, r)) : r.length < l.length := H.rdF_len _ _ _ _ _ h
theorem H.rdF_ne : ∀ (n : Nat) (acc : List H.Hd) (l : H.T) (c : Int), l.length < n → H.rdF n acc l = .error c → c ≠ 0
  | 0, _, _, _, hn, _ => by omega
  | n + 1, acc, l, c, hn, h => by
    simp only [H.rdF] at h
    cases hl : H.line l with
    | error e => rw [hl] at h; injection h with h; subst h; exact H.line_ne hl
    | ok p =>
      obtain ⟨t, r1⟩ := p
      have hlen := H.line_len hl
      rw [hl] at h
      simp only at h
      split at h
      · cases h
      · split at h
        · rename_i e he
          injection h with h
          subst h
          unfold H.head at he
          simp only at he
          split at he
          · cases he
          · injection he with he; rw [← he]; decide
        · split at h
          · injection h with h; subst h; decide
          · exact H.rdF_ne n _ r1 c (by omega) h
theorem H.rd_ne {l : H.T} {c : Int} (h : H.rd l = .error c) : c ≠ 0 := H.rdF_ne _ _ _ _ (by omega) h
theorem H.rdF_suf : ∀ (n : Nat) (acc : List H.Hd) (l : H.T) (hs : List H.Hd) (r : H.T), H.rdF n acc l = .ok (hs, r) → r = l.drop (l.length - r.length)
  | 0, _, _, _, _, h => by cases h
  | n + 1, acc, l, hs, r, h => by
    simp only [H.rdF] at h
    cases hl : H.line l with
    | error e => rw [hl] at h; cases h
    | ok p =>
      obtain ⟨t, r1⟩ := p
      have hlen := H.line_len hl
      have hd := line_drop hl
      rw [hl] at h
      simp only at h
      split at h
      · injection h with h; injection h with _ h; subst h; exact hd
      · split at h
        · cases h
        · split at h
          · cases h
          · have h1 := H.rdF_suf n _ r1 hs r h
            have h2 := H.rdF_len n _ r1 hs r h
            rw [hd, List.drop_drop] at h1
            rw [List.length_drop] at h1
            conv => lhs; rw [h1]
            congr 1
            omega
theorem H.bodyD_ne {must : Bool} {most : Int} {hs : List H.Hd} {l : H.T} {c : Int} (h : H.bodyD must most hs l = .error c) : c ≠ 0 := by
  unfold H.bodyD at h
  split at h
  · injection h with h; rw [← h]; decide
  · exact H.body_ne h
theorem H.bodyD_len {must : Bool} {most : Int} {hs : List H.Hd} {l b r : H.T} (h : H.bodyD must most hs l = .ok (b, r)) : r.length ≤ l.length := by
  unfold H.bodyD at h
  split at h
  · cases h
  · exact H.body_len h
theorem row_far2 {W W2 : World} {B : Nat} {v v2 : Value} {o : Obj} {hs : List H.Hd} (h : HRow W B v hs) (h2 : (W.alloc o).grownBy W2 v2.ownBlock) (hap : ∀ g, v2.ownBlock = some g → v.ownBlock ≠ some g) (hs2 : v.ownBlock = some W.heap.size → False) : HRow W2 B v hs := by
  have hA : HRow (W.alloc o) B v hs := row_below h ((Below.refl _ W).alloc (Nat.le_refl _) _)
  exact World.ownsRow.kept hA h2 (by
    cases e : v.ownBlock with
    | none => exact .inl rfl
    | some g => exact .inr (fun h3 => hap g h3.symm e))
/-- what the document's all reads -/
def H.allR (must : Bool) (most : Int) (l : H.T) : H.R (List H.Hd × H.T) :=
  match H.rd l with
  | .error e => .error e
  | .ok (hs, r) => match H.bodyD must most hs r with
    | .error e => .error e
    | .ok (b, r2) => .ok ((H.plain hs, b), r2)
def AllD (w : World) (B : Nat) (l : H.T) (r : H.R (List H.Hd × H.T)) (e : Ending) : Prop := match r with
  | .ok ((hs, b), r) => ∃ ad cap, e = .returned (.tuple #[.slice ad hs.length cap, S b, .int .i64 ((l.length - r.length : Nat) : Int), .int .i64 0]) ∧ HRow w B (.slice ad hs.length cap) hs
  | .error c => e = .returned (.tuple #[.slice none 0 0, S [], .int .i64 0, .int .i64 c])
set_option maxHeartbeats 8000000 in
theorem dall_any (w : World) (l : H.T) (most : Int) (must : Bool) (hm : H.okMost most) (hl : l.length ≤ 1000000000) : Calls Tryz.prog 34 #[S l, .int .i64 most, .bool must] w fun e w' => AllD w' w.heap.size l (H.allR must most l) e ∧ Below w.heap.size w w' := by
  obtain ⟨i0, hi0, hz0, hz1, hz2⟩ := info_parts Tryz.info73
  obtain ⟨y, hy⟩ : ∃ y : Int, ((l.length : Nat) : Int) = y := ⟨_, rfl⟩
  have hyl : y ≤ 1000000000 := by omega
  have Hm := Lib.hid hm
  clear hm
  unfold H.allR
  have hrd := dreadHeads_any w l hl
  cases hr : H.rd l with
  | error c =>
    rw [hr] at hrd
    have hc := H.rd_ne hr
    have hc' : (c == 0) = false := by simpa using hc
    have hc2 : (c != 0) = true := by simpa using hc
    simp only
    clear hr
    go_enter Tryz.func34, Tryz.ntmps34
    go_wp2_with fail
    refine hrd.mono ?_
    rintro e w1 ⟨he, hb1⟩
    have he' : e = .returned (.tuple #[.slice none 0 0, .int .i64 0, .int .i64 c]) := he
    subst he'
    clear he hrd
    go_wp2
    refine bodyPost_ret (results_tmp4 rfl _ _ _) rfl ?_
    exact ⟨rfl, hb1⟩
  | ok p =>
    obtain ⟨hs, r⟩ := p
    rw [hr] at hrd
    have hlen := H.rd_len hr
    obtain ⟨hsh, hmx⟩ := H.rd_short hr
    have hsuf := H.rdF_suf _ _ _ _ _ hr
    simp only
    obtain ⟨k, hk⟩ : ∃ k : Nat, l.length - r.length = k := ⟨_, rfl⟩
    rw [hk] at hsuf
    have e1 : (⟨l.toArray⟩ : ByteArray).extract k l.length = ⟨r.toArray⟩ := by rw [hsuf]; exact ext_drop l k
    have b1 : (0 : Int) ≤ (k : Int) := by omega
    have b2 : (k : Int) ≤ y := by omega
    obtain ⟨z, hz⟩ : ∃ z : Int, ((hs.length : Nat) : Int) = z := ⟨_, rfl⟩
    have hzz : z ≤ 1000000000 := by omega
    have Hsh := Lib.hid hsh
    clear hr hsuf hsh
    obtain ⟨R2, hR2⟩ : ∃ R2, H.bodyD must most hs r = R2 := ⟨_, rfl⟩
    have HR2 := Lib.hid hR2
    rw [hR2]
    clear hR2
    have hk' : (fun (e : Ending) (w1 : World) => RdD w1 w.heap.size l (.ok (hs, r)) e ∧ Below w.heap.size w w1) = fun e w1 => (∃ ad cap, e = .returned (.tuple #[.slice ad hs.length cap, .int .i64 (k : Int), .int .i64 0]) ∧ HRow w1 w.heap.size (.slice ad hs.length cap) hs) ∧ Below w.heap.size w w1 := by rw [← hk]; rfl
    rw [hk'] at hrd
    clear hk'
    go_enter Tryz.func34, Tryz.ntmps34
    go_wp2_with fail
    refine hrd.mono ?_
    rintro e w1 ⟨⟨ad, cap, rfl, hrow⟩, hb1⟩
    have Hrow := Lib.hid hrow
    have Hb1 := Lib.hid hb1
    have hbd := dbody_any w1 r hs ad cap most must Hm.out (by omega) (HRow.hds hrow).2 (fun h hh => by have := Hsh.out h hh; omega) (by omega)
    rw [HR2.out] at hbd
    clear hrd hrow hb1
    go_wp2_with fail
    refine hbd.mono ?_
    rintro e w2 ⟨hcd, hb2⟩
    have Hb2 := Lib.hid (Hb1.out.trans (hb2.mono Hb1.out.size))
    have Hrow2 := Lib.hid (show HRow w2 w.heap.size (.slice ad hs.length cap) hs from row_below Hrow.out hb2)
    clear hb2 hbd Hb1 Hrow
    cases R2 with
    | error c =>
      obtain ⟨x, yy, he⟩ := hcd
      subst he
      have hc := H.bodyD_ne HR2.out
      have hc' : (c == 0) = false := by simpa using hc
      have hc2 : (c != 0) = true := by simpa using hc
      go_wp2
      refine bodyPost_ret (results_tmp4 rfl _ _ _) rfl ?_
      exact ⟨rfl, Hb2.out⟩
    | ok p =>
      obtain ⟨b, r2⟩ := p
      have hl2 := H.bodyD_len HR2.out
      have he : e = .returned (.tuple #[S b, .int .i64 ((r.length - r2.length : Nat) : Int), .int .i64 0]) := hcd
      subst he
      obtain ⟨m, hmm⟩ : ∃ m : Nat, r.length - r2.length = m := ⟨_, rfl⟩
      rw [hmm]
      have hfin : (k : Int) + (m : Int) = ((l.length - r2.length : Nat) : Int) := by omega
      have hwk : IntKind.i64.wrap ((k : Int) + (m : Int)) = (k : Int) + (m : Int) := by rw [IntKind.wrap_i64]; omega
      have Hfin := Lib.hid hfin
      clear hfin hcd hmm hk
      go_wp2
      go_loopw [15, 43] (fun v u wr => ∃ j : Nat, u = .int .i64 (j : Int) ∧ j ≤ hs.length ∧ HRow wr w.heap.size v (H.plain (hs.take j)) ∧ HRow wr w.heap.size (.slice ad hs.length cap) hs ∧ (∀ g, v.ownBlock = some g → (Value.slice ad hs.length cap).ownBlock ≠ some g) ∧ Below w.heap.size w wr) (fun v u _ => hs.length - (intOf u).toNat)
      case atStart => exact ⟨0, rfl, Nat.zero_le _, hrow_nil _ _, Hrow2.out, (fun g h => by simp [Value.ownBlock] at h), Hb2.out⟩
      case round =>
        obtain ⟨j, rfl, hj, hv, hh, hap, hb⟩ := hrel
        have Hv := Lib.hid hv
        have Hh := Lib.hid hh
        have Hap := Lib.hid hap
        have Hb := Lib.hid hb
        obtain ⟨adv, capv, rfl⟩ := row_form hv
        clear hv hh hap hb
        by_cases hlt : j < hs.length
        · have hjz : (j : Int) < z := by omega
          have hne : hs ≠ [] := by rintro rfl; simp at hlt
          have hds := (HRow.hds Hh.out).2
          obtain ⟨g1, o1, ead, _, k1⟩ := hds hne
          obtain ⟨x, hx⟩ : ∃ x, hs[j]? = some x := ⟨_, List.getElem?_eq_getElem hlt⟩
          obtain ⟨p1, p2⟩ := k1 j x hx
          obtain ⟨s1, s2⟩ := Hsh.out x (List.mem_of_getElem? hx)
          have hp1 := H.plain_at hs j x hx
          have hple : (H.plain (hs.take j)).length ≤ 1000000000 := by have := H.plain_le (hs.take j); rw [List.length_take] at this; omega
          obtain ⟨PJ, hPJ⟩ : ∃ PJ, H.plain (hs.take j) = PJ := ⟨_, rfl⟩
          rw [hPJ] at hp1 Hv Hap hple ⊢
          subst ead
          have hfr := fun W => framing_any W x.name (by omega)
          obtain ⟨Y, hY⟩ : ∃ Y, Y = wr.alloc (.cells #[S x.name, S x.value] 73) := ⟨_, rfl⟩
          have hyk : Y.heap[wr.heap.size]? = some (.cells #[S x.name, S x.value] 73 (0, 0)) := by rw [hY]; exact blk_new wr _
          have hbY : Below wr.heap.size wr Y := by rw [hY]; exact (Below.refl _ wr).alloc (Nat.le_refl _) _
          have HbY := Lib.hid hbY
          obtain ⟨c0, c1⟩ := box2 hyk
          have lc := blk_lt hyk
          have Hyk := Lib.hid hyk
          clear k1 hx hbY hyk hPJ hds
          go_upto_region 11 with (fail)
          rw [← hY]
          clear hY
          cases hf : H.framing x.name with
          | true =>
            rw [hf] at hfr
            rw [hf, if_pos rfl, List.append_nil] at hp1
            have Hp1 := Lib.hid hp1
            clear hf hp1
            go_wp2_with fail
            refine (hfr _).mono ?_
            rintro e w3 ⟨rfl, hb3⟩
            have Hb3 := Lib.hid (HbY.out.trans (hb3.mono HbY.out.size))
            clear hb3 c0 c1 lc
            go_wp2
            go_roundw
            case rel => exact ⟨j + 1, by go_num, by omega, by rw [Hp1.out]; exact row_below Hv.out Hb3.out, row_below Hh.out Hb3.out, Hap.out, Hb.out.trans (Hb3.out.mono Hb.out.size)⟩
            case measure => simp [intOf]; omega
          | false =>
            rw [hf] at hfr
            rw [hf, if_neg (by decide)] at hp1
            have Hp1 := Lib.hid hp1
            clear hf hp1
            go_wp2_with fail
            refine (hfr _).mono ?_
            rintro e w3 ⟨rfl, hb3⟩
            have Hb3 := Lib.hid (HbY.out.trans (hb3.mono HbY.out.size))
            have HbZ := Lib.hid (Hb.out.trans (Hb3.out.mono Hb.out.size))
            have HvZ := Lib.hid (show HRow w3 w.heap.size (.slice adv PJ.length capv) PJ from row_below Hv.out Hb3.out)
            have HhZ := Lib.hid (show HRow w3 w.heap.size (.slice (some ⟨g1, o1, none⟩) hs.length cap) hs from row_below Hh.out Hb3.out)
            obtain ⟨d0, d1⟩ := box2 (blk_under Hyk.out hb3)
            have lZ := blk_lt (blk_under Hyk.out hb3)
            have Hown := Lib.hid (World.ownsRow.alloc HvZ.out (.cells #[S x.name, S x.value] 73))
            have Hnews := Lib.hid (show ∀ j u, [S x.name, S x.value][j]? = some u → (w3.alloc (.cells #[S x.name, S x.value] 73)).cell? ((⟨w3.heap.size, 0, none⟩ : Addr).add j) = some u from fun j u hj => by
              rw [Addr.add_lit, Nat.zero_add, cell_of_row _ w3.heap.size j _ 73 (0, 0) (blk_new w3 _)]
              simpa using hj)
            have Hones := Lib.hid (show ∀ u ∈ [S x.name, S x.value], u.oneCell' = true from fun u hu => by simp at hu; rcases hu with rfl | rfl <;> rfl)
            have hBsz := HbZ.out.size
            have Hwz := Lib.hid Hb3.out.size
            obtain ⟨uv, hu⟩ : ∃ uv, uv = Value.slice adv PJ.length capv := ⟨_, rfl⟩
            have HvU := Lib.hid (hu ▸ HvZ.out)
            have HapU := Lib.hid (hu ▸ Hap.out)
            replace Hown := Lib.hid (hu ▸ Hown.out)
            clear hb3 c0 c1 lc HvZ
            go_upto_region 12 with (fail)
            rw [← hu]
            clear hu
            go_wp2_with (at_builtin; refine wpList_append_own_at _ rfl _ _ 22 rfl w.heap.size 73 i0 _ 2 32 Tryz.underlying22 hi0 hz0 hz1 hz2 rfl (by decide) _ _ _ rfl Hown.out ⟨w3.heap.size, 0, none⟩ 1 1 [S x.name, S x.value] rfl rfl Hnews.out Hones.out (by simp only [maxLen]; omega) (by omega) (by simp; omega) ?_)
            intro v' w5 a1 a2 _ a4
            obtain ⟨r1, r2'⟩ := row_put HvU.out HbZ.out a1 a2
            have hh5 := row_far2 HhZ.out a2 (fun g hg => HapU.out g hg) (fun e => by have := (own_lt HhZ.out _ e).2; omega)
            have HR5 := Lib.hid r1
            have HB5 := Lib.hid r2'
            have HH5 := Lib.hid hh5
            have HA5 := Lib.hid (show ∀ g, v'.ownBlock = some g → (Value.slice (some ⟨g1, o1, none⟩) hs.length cap).ownBlock ≠ some g from fun g hg => by
              rcases a4 with a4 | a4
              · exact HapU.out g (a4.symm.trans hg)
              · rw [a4] at hg
                injection hg with hg
                intro e
                have := (own_lt HhZ.out _ e).2
                have hz3 : (w3.alloc (.cells #[S x.name, S x.value] 73)).heap.size = w3.heap.size + 1 := by simp
                omega)
            clear a1 a2 a4 r1 r2' hh5 d0 d1 lZ Hown Hnews Hones HvU HbZ
            go_wp2
            go_roundw
            case rel => exact ⟨j + 1, by go_num, by omega, by rw [Hp1.out]; exact HR5.out, HH5.out, HA5.out, HB5.out⟩
            case measure => simp [intOf]; omega
        · have hjz : ¬ (j : Int) < z := by omega
          have htk : hs.take j = hs := List.take_of_length_le (by omega)
          rw [htk] at Hv ⊢
          go_wp2
          refine bodyPost_ret (results_tmp4 rfl _ _ _) rfl ?_
          exact ⟨⟨adv, capv, by rw [← Hfin.out]; rfl, Hv.out⟩, Hb.out⟩
end Go.Proofs.YtjkinjfbjbehjaaGreatDoor

/- HTTP: THE DOCUMENT'S OWN ReadRequest. -/
namespace Go.Proofs.YtjkinjfbjbehjaaGreatDoor
open Go.RowKit
set_option maxRecDepth 100000
set_option linter.unusedVariables false
set_option linter.unusedSimpArgs false

theorem H.cut_nil (c : UInt8) : Lib.cut [] [c] = ([], [], false) := cut_none c [] (by simp)
theorem H.cut_false {l : H.T} {c : UInt8} (h : (Lib.cut l [c]).2.2 = false) : (Lib.cut l [c]).2.1 = [] := by
  unfold Lib.cut at *
  split at h
  · cases h
  · rename_i h0
    rw [if_neg h0]
/-- ReadRequest, by the document's parts -/
theorem H.reqR_eq (most : Int) (l : H.T) : H.reqR most l = match H.line l with
  | .error e => .error e
  | .ok (t, r) =>
    if ((H.words t).2.2.2 && H.isOf (H.words t).1 H.tok && H.isOf (H.words t).2.1 H.tgt && decide ((H.words t).2.2.1 = H.version)) = true then
      match H.allR false most r with
      | .error e => .error e
      | .ok ((hs, b), r2) => .ok (⟨(H.words t).1, (H.words t).2.1, hs, b⟩, r2)
    else .error 13 := by
  unfold H.reqR H.requestLine
  cases H.line l with
  | error e => rfl
  | ok p =>
    obtain ⟨t, r⟩ := p
    simp only
    have hall : ∀ (a b : H.T), (match H.heads r with
      | .error e => (.error e : H.R H.Rq)
      | .ok (f, r') => match H.body most f r' with
        | .error e => (.error e : H.R H.Rq)
        | .ok (bb, r'') => (.ok (⟨a, b, f.hs, bb⟩, r'') : H.R H.Rq)) = (match H.allR false most r with
      | .error e => (.error e : H.R H.Rq)
      | .ok ((hs, bb), r2) => (.ok (⟨a, b, hs, bb⟩, r2) : H.R H.Rq)) := by
      intro a b
      rw [H.rd_heads]
      unfold H.allR
      cases H.rd r with
      | error e => rfl
      | ok p =>
        obtain ⟨hs, r'⟩ := p
        simp only
        have : H.bodyD false most hs r' = H.body most (H.frOf hs) r' := by unfold H.bodyD; simp
        rw [this]
        cases H.body most (H.frOf hs) r' with
        | error e => rfl
        | ok q => rfl
    have hw : H.words t = if (Lib.cut t [32]).2.2 && (Lib.cut (Lib.cut t [32]).2.1 [32]).2.2 then ((Lib.cut t [32]).1, (Lib.cut (Lib.cut t [32]).2.1 [32]).1, (Lib.cut (Lib.cut t [32]).2.1 [32]).2.1, true) else ([], [], [], false) := rfl
    cases h1 : (Lib.cut t [32]).2.2 with
    | false =>
      have h2 := H.cut_false h1
      rw [h1] at hw
      simp only [Bool.false_and, Bool.false_eq_true, if_false] at hw
      rw [hw, h2, H.cut_nil]
      rw [if_neg (by simp [H.isOf, H.version]), if_neg (by simp [H.isOf, H.version])]
    | true =>
      cases h3 : (Lib.cut (Lib.cut t [32]).2.1 [32]).2.2 with
      | false =>
        have h4 := H.cut_false h3
        rw [h1, h3] at hw
        simp only [Bool.and_false, Bool.false_eq_true, if_false] at hw
        rw [hw, h4]
        rw [if_neg (by simp [H.version]), if_neg (by simp)]
      | true =>
        rw [h1, h3] at hw
        simp only [Bool.and_true, if_true] at hw
        rw [hw]
        simp only [Bool.true_and]
        by_cases hc : (H.isOf (Lib.cut t [32]).1 H.tok && H.isOf (Lib.cut (Lib.cut t [32]).2.1 [32]).1 H.tgt && decide ((Lib.cut (Lib.cut t [32]).2.1 [32]).2.1 = H.version)) = true
        · rw [if_pos hc, if_pos hc]
          exact hall _ _
        · rw [if_neg hc, if_neg hc]
theorem words_len (t : H.T) : (H.words t).1.length ≤ t.length ∧ (H.words t).2.1.length ≤ t.length ∧ (H.words t).2.2.1.length ≤ t.length := by
  unfold H.words
  simp only
  have a := cut_len t [32]
  have b := cut_len (Lib.cut t [32]).2.1 [32]
  split
  · exact ⟨a.1, by simp only; omega, by simp only; omega⟩
  · simp
def RqOut (w w' : World) (q : H.Rq) (n : Nat) (c : Int) (e : Ending) : Prop := Below w.heap.size w w' ∧ ∃ ad k cap, e = .returned (.tuple #[.agg #[S q.method, S q.target, .slice ad k cap, S q.body], .int .i64 (n : Int), .int .i64 c]) ∧ k = q.hs.length ∧ Hds w' ad q.hs
theorem H.allR_ne {must : Bool} {most : Int} {l : H.T} {c : Int} (h : H.allR must most l = .error c) : c ≠ 0 := by
  unfold H.allR at h
  cases hr : H.rd l with
  | error e => rw [hr] at h; injection h with h; subst h; exact H.rd_ne hr
  | ok p =>
    obtain ⟨hs, r⟩ := p
    rw [hr] at h
    simp only at h
    cases hb : H.bodyD must most hs r with
    | error e => rw [hb] at h; injection h with h; subst h; exact H.bodyD_ne hb
    | ok p => rw [hb] at h; cases h
theorem H.allR_len {must : Bool} {most : Int} {l : H.T} {x : List H.Hd × H.T} {r2 : H.T} (h : H.allR must most l = .ok (x, r2)) : r2.length ≤ l.length := by
  unfold H.allR at h
  cases hr : H.rd l with
  | error e => rw [hr] at h; cases h
  | ok p =>
    obtain ⟨hs, r⟩ := p
    have := H.rd_len hr
    rw [hr] at h
    simp only at h
    cases hb : H.bodyD must most hs r with
    | error e => rw [hb] at h; cases h
    | ok p =>
      obtain ⟨b, r3⟩ := p
      have := H.bodyD_len hb
      rw [hb] at h
      simp only at h
      injection h with h
      injection h with _ h
      subst h
      omega
set_option maxHeartbeats 8000000 in
theorem drd_any (w : World) (l : H.T) (most : Int) (hl : l.length ≤ 1000000000) (q : H.Rq) (n : Nat) (c : Int) (hq : H.readRequest l most = (q, n, c)) : Calls Tryz.prog 11 #[S l, .int .i64 most] w fun e w' => RqOut w w' q n c e := by
  obtain ⟨y, hy⟩ : ∃ y : Int, ((l.length : Nat) : Int) = y := ⟨_, rfl⟩
  have hyl : y ≤ 1000000000 := by omega
  obtain ⟨X, hX⟩ : ∃ X, X = w.alloc (.cells #[S [], S [], .slice none 0 0, S []] 24) := ⟨_, rfl⟩
  have hbX : Below w.heap.size w X := by rw [hX]; exact (Below.refl _ w).alloc (Nat.le_refl _) _
  have hkX : X.heap[w.heap.size]? = some (.cells #[S [], S [], .slice none 0 0, S []] 24 (0, 0)) := by rw [hX]; exact blk_new w _
  have HbX := Lib.hid hbX
  have HkX := Lib.hid hkX
  clear hbX hkX
  unfold H.readRequest at hq
  by_cases hm : H.okMost most
  · rw [if_pos hm, H.reqR_eq] at hq
    have Hm := Lib.hid hm
    obtain ⟨hm0, hm1⟩ := hm
    have hline := fun W => csy (dline_any W l (by omega))
    cases hln : H.line l with
    | error c1 =>
      have hD : H.lineD l = ([], 0, c1) := by unfold H.lineD; rw [hln]
      rw [hD] at hline
      rw [hln] at hq
      simp only at hq
      obtain ⟨rfl, rfl, rfl⟩ := trip hq
      have hc := H.line_ne hln
      have hc' : (c == 0) = false := by simpa using hc
      have hc2 : (c != 0) = true := by simpa using hc
      clear hD hln hq
      go_enter Tryz.func11, Tryz.ntmps11
      go_upto_region 1 with (fail)
      rw [← hX]
      clear hX
      obtain ⟨a0, a1, a2, a3⟩ := box4 HkX.out
      obtain ⟨f0, f1, f2, f3⟩ := frz4 HkX.out
      have hl0 := blk_lt HkX.out
      go_wp2_with (first | (go_at_call 30; refine (hline _).mono ?_; rintro e w1 ⟨rfl, rfl⟩) | fail)
      obtain ⟨V, hV⟩ : ∃ V, V = (((X.setCell ⟨w.heap.size, 0, none⟩ (S [])).setCell ⟨w.heap.size, 1, none⟩ (S [])).setCell ⟨w.heap.size, 2, none⟩ (.slice none 0 0)).setCell ⟨w.heap.size, 3, none⟩ (S []) := ⟨_, rfl⟩
      rw [← hV]
      obtain ⟨hkV, hgV⟩ := put4 HkX.out _ _ _ _ hV
      obtain ⟨k0, k1, k2, k3⟩ := box4 hkV
      clear hV a0 a1 a2 a3 f0 f1 f2 f3
      refine bodyPost_ret (by simp [results, Tryz.results11, go_sem, k0, k1, k2, k3]; try rfl) rfl ?_
      exact ⟨grown_below HbX.out hgV (Nat.le_refl _) hl0, none, 0, 0, rfl, rfl, fun h => absurd rfl h⟩
    | ok p =>
      obtain ⟨t, r⟩ := p
      have hlen := H.line_len hln
      have hD : H.lineD l = (t, l.length - r.length, 0) := by unfold H.lineD; rw [hln]
      rw [hD] at hline
      rw [hln] at hq
      simp only at hq
      have hdr := line_drop hln
      obtain ⟨k, hk⟩ : ∃ k : Nat, l.length - r.length = k := ⟨_, rfl⟩
      rw [hk] at hline hdr
      have hword := fun W => dwords_any W t (by omega)
      obtain ⟨u1, u2, u3, u4, hu⟩ : ∃ a b c d, H.words t = (a, b, c, d) := ⟨_, _, _, _, rfl⟩
      have hwl := words_len t
      rw [hu] at hword hq hwl
      simp only at hq hword hwl
      have h32 := fun W => csy (dtoken W u1 (by omega))
      have h33 := fun W => csy (dtarget W u2 (by omega))
      clear hD hln hu
      cases u4 with
      | false =>
        simp only [Bool.false_and, Bool.false_eq_true, if_false] at hq
        obtain ⟨rfl, rfl, rfl⟩ := trip hq
        clear hq h32 h33
        go_enter Tryz.func11, Tryz.ntmps11
        go_upto_region 1 with (fail)
        rw [← hX]
        clear hX
        go_upto_region 8 with (first | (go_at_call 30; refine (hline _).mono ?_; rintro e w1 ⟨rfl, rfl⟩) | (go_at_call 31; refine (hword _).mono ?_; rintro e w4 ⟨rfl, n4, rfl⟩))
        have hbn := below_drewN' X n4
        have K4 := Lib.hid (blk_under HkX.out hbn)
        have B4 := Lib.hid (HbX.out.trans (hbn.mono HbX.out.size))
        obtain ⟨Z, hZ⟩ : ∃ Z, Z = X.drewN n4 := ⟨_, rfl⟩
        rw [← hZ] at K4 B4 ⊢
        clear hbn hZ
        obtain ⟨a0, a1, a2, a3⟩ := box4 K4.out
        obtain ⟨f0, f1, f2, f3⟩ := frz4 K4.out
        have hl0 := blk_lt K4.out
        go_wp2
        obtain ⟨V, hV⟩ : ∃ V, V = (((Z.setCell ⟨w.heap.size, 0, none⟩ (S [])).setCell ⟨w.heap.size, 1, none⟩ (S [])).setCell ⟨w.heap.size, 2, none⟩ (.slice none 0 0)).setCell ⟨w.heap.size, 3, none⟩ (S []) := ⟨_, rfl⟩
        rw [← hV]
        obtain ⟨hkV, hgV⟩ := put4 K4.out _ _ _ _ hV
        obtain ⟨k0, k1, k2, k3⟩ := box4 hkV
        clear hV a0 a1 a2 a3 f0 f1 f2 f3
        refine bodyPost_ret (by simp [results, Tryz.results11, go_sem, k0, k1, k2, k3]; try rfl) rfl ?_
        exact ⟨grown_below B4.out hgV (Nat.le_refl _) hl0, none, 0, 0, rfl, rfl, fun h => absurd rfl h⟩
      | true =>
        cases t1 : H.isOf u1 H.tok with
        | false =>
          rw [t1] at h32 hq
          simp only [Bool.and_false, Bool.false_and, Bool.false_eq_true, if_false] at hq
          obtain ⟨rfl, rfl, rfl⟩ := trip hq
          clear hq h33
          go_enter Tryz.func11, Tryz.ntmps11
          go_upto_region 1 with (fail)
          rw [← hX]
          clear hX
          go_upto_region 8 with (first | (go_at_call 30; refine (hline _).mono ?_; rintro e w1 ⟨rfl, rfl⟩) | (go_at_call 31; refine (hword _).mono ?_; rintro e w4 ⟨rfl, n4, rfl⟩) | (go_at_call 32; refine (h32 _).mono ?_; rintro e w5 ⟨rfl, rfl⟩))
          have hbn := below_drewN' X n4
          have K4 := Lib.hid (blk_under HkX.out hbn)
          have B4 := Lib.hid (HbX.out.trans (hbn.mono HbX.out.size))
          obtain ⟨Z, hZ⟩ : ∃ Z, Z = X.drewN n4 := ⟨_, rfl⟩
          rw [← hZ] at K4 B4 ⊢
          clear hbn hZ
          obtain ⟨a0, a1, a2, a3⟩ := box4 K4.out
          obtain ⟨f0, f1, f2, f3⟩ := frz4 K4.out
          have hl0 := blk_lt K4.out
          go_wp2
          obtain ⟨V, hV⟩ : ∃ V, V = (((Z.setCell ⟨w.heap.size, 0, none⟩ (S [])).setCell ⟨w.heap.size, 1, none⟩ (S [])).setCell ⟨w.heap.size, 2, none⟩ (.slice none 0 0)).setCell ⟨w.heap.size, 3, none⟩ (S []) := ⟨_, rfl⟩
          rw [← hV]
          obtain ⟨hkV, hgV⟩ := put4 K4.out _ _ _ _ hV
          obtain ⟨k0, k1, k2, k3⟩ := box4 hkV
          clear hV a0 a1 a2 a3 f0 f1 f2 f3
          refine bodyPost_ret (by simp [results, Tryz.results11, go_sem, k0, k1, k2, k3]; try rfl) rfl ?_
          exact ⟨grown_below B4.out hgV (Nat.le_refl _) hl0, none, 0, 0, rfl, rfl, fun h => absurd rfl h⟩
        | true =>
          rw [t1] at h32 hq
          cases t2 : H.isOf u2 H.tgt with
          | false =>
            rw [t2] at h33 hq
            simp only [Bool.and_false, Bool.false_and, Bool.false_eq_true, if_false] at hq
            obtain ⟨rfl, rfl, rfl⟩ := trip hq
            clear hq
            go_enter Tryz.func11, Tryz.ntmps11
            go_upto_region 1 with (fail)
            rw [← hX]
            clear hX
            go_upto_region 8 with (first | (go_at_call 30; refine (hline _).mono ?_; rintro e w1 ⟨rfl, rfl⟩) | (go_at_call 31; refine (hword _).mono ?_; rintro e w4 ⟨rfl, n4, rfl⟩) | (go_at_call 32; refine (h32 _).mono ?_; rintro e w5 ⟨rfl, rfl⟩) | (go_at_call 33; refine (h33 _).mono ?_; rintro e w5 ⟨rfl, rfl⟩))
            have hbn := below_drewN' X n4
            have K4 := Lib.hid (blk_under HkX.out hbn)
            have B4 := Lib.hid (HbX.out.trans (hbn.mono HbX.out.size))
            obtain ⟨Z, hZ⟩ : ∃ Z, Z = X.drewN n4 := ⟨_, rfl⟩
            rw [← hZ] at K4 B4 ⊢
            clear hbn hZ
            obtain ⟨a0, a1, a2, a3⟩ := box4 K4.out
            obtain ⟨f0, f1, f2, f3⟩ := frz4 K4.out
            have hl0 := blk_lt K4.out
            go_wp2
            obtain ⟨V, hV⟩ : ∃ V, V = (((Z.setCell ⟨w.heap.size, 0, none⟩ (S [])).setCell ⟨w.heap.size, 1, none⟩ (S [])).setCell ⟨w.heap.size, 2, none⟩ (.slice none 0 0)).setCell ⟨w.heap.size, 3, none⟩ (S []) := ⟨_, rfl⟩
            rw [← hV]
            obtain ⟨hkV, hgV⟩ := put4 K4.out _ _ _ _ hV
            obtain ⟨k0, k1, k2, k3⟩ := box4 hkV
            clear hV a0 a1 a2 a3 f0 f1 f2 f3
            refine bodyPost_ret (by simp [results, Tryz.results11, go_sem, k0, k1, k2, k3]; try rfl) rfl ?_
            exact ⟨grown_below B4.out hgV (Nat.le_refl _) hl0, none, 0, 0, rfl, rfl, fun h => absurd rfl h⟩
          | true =>
            rw [t2] at h33 hq
            simp only [Bool.true_and] at hq
            by_cases t3 : u3 = H.version
            · rw [show decide (u3 = H.version) = true from by simpa using t3] at hq
              simp only [if_true] at hq
              have t3' : u3 = [72, 84, 84, 80, 47, 49, 46, 49] := t3
              subst t3'
              have e1 : (⟨l.toArray⟩ : ByteArray).extract k l.length = ⟨r.toArray⟩ := by rw [hdr]; exact ext_drop l k
              have b1 : (0 : Int) ≤ (k : Int) := by omega
              have b2 : (k : Int) ≤ y := by omega
              have hall := fun W => dall_any W r most false Hm.out (by omega)
              cases hR : H.allR false most r with
              | error c1 =>
                rw [hR] at hq hall
                simp only at hq
                obtain ⟨rfl, rfl, rfl⟩ := trip hq
                have hc := H.allR_ne hR
                have hc' : (c == 0) = false := by simpa using hc
                have hc2 : (c != 0) = true := by simpa using hc
                clear hR hq t3 hdr
                go_enter Tryz.func11, Tryz.ntmps11
                go_upto_region 1 with (fail)
                rw [← hX]
                clear hX
                go_wp2_with (first | (go_at_call 30; refine (hline _).mono ?_; rintro e w1 ⟨rfl, rfl⟩) | (go_at_call 31; refine (hword _).mono ?_; rintro e w4 ⟨rfl, n4, rfl⟩) | (go_at_call 32; refine (h32 _).mono ?_; rintro e w5 ⟨rfl, rfl⟩) | (go_at_call 33; refine (h33 _).mono ?_; rintro e w5 ⟨rfl, rfl⟩))
                refine (hall _).mono ?_
                rintro e w6 ⟨he, hb6⟩
                have he' : e = .returned (.tuple #[.slice none 0 0, S [], .int .i64 0, .int .i64 c]) := he
                subst he'
                have hbn := (below_drewN' X n4).trans (hb6.mono (below_drewN' X n4).size)
                have K4 := Lib.hid (blk_under HkX.out hbn)
                have B4 := Lib.hid (HbX.out.trans (hbn.mono HbX.out.size))
                clear he hb6 hbn hall
                obtain ⟨a0, a1, a2, a3⟩ := box4 K4.out
                obtain ⟨f0, f1, f2, f3⟩ := frz4 K4.out
                have hl0 := blk_lt K4.out
                go_wp2
                obtain ⟨V, hV⟩ : ∃ V, V = (((w6.setCell ⟨w.heap.size, 0, none⟩ (S [])).setCell ⟨w.heap.size, 1, none⟩ (S [])).setCell ⟨w.heap.size, 2, none⟩ (.slice none 0 0)).setCell ⟨w.heap.size, 3, none⟩ (S []) := ⟨_, rfl⟩
                rw [← hV]
                obtain ⟨hkV, hgV⟩ := put4 K4.out _ _ _ _ hV
                obtain ⟨k0, k1, k2, k3⟩ := box4 hkV
                clear hV a0 a1 a2 a3 f0 f1 f2 f3
                refine bodyPost_ret (by simp [results, Tryz.results11, go_sem, k0, k1, k2, k3]; try rfl) rfl ?_
                exact ⟨grown_below B4.out hgV (Nat.le_refl _) hl0, none, 0, 0, rfl, rfl, fun h => absurd rfl h⟩
              | ok p =>
                obtain ⟨⟨hs, b⟩, r2⟩ := p
                have hl2 := H.allR_len hR
                rw [hR] at hq hall
                simp only at hq
                obtain ⟨rfl, rfl, rfl⟩ := trip hq
                obtain ⟨m, hmm⟩ : ∃ m : Nat, r.length - r2.length = m := ⟨_, rfl⟩
                have hfin : (k : Int) + (m : Int) = ((l.length - r2.length : Nat) : Int) := by omega
                have hwk : IntKind.i64.wrap ((k : Int) + (m : Int)) = (k : Int) + (m : Int) := by rw [IntKind.wrap_i64]; omega
                have Hfin := Lib.hid hfin
                have hk' : ∀ W, (fun (e : Ending) (w' : World) => AllD w' W.heap.size r (.ok ((hs, b), r2)) e ∧ Below W.heap.size W w') = fun e w' => (∃ ad cap, e = .returned (.tuple #[.slice ad hs.length cap, S b, .int .i64 (m : Int), .int .i64 0]) ∧ HRow w' W.heap.size (.slice ad hs.length cap) hs) ∧ Below W.heap.size W w' := fun W => by rw [← hmm]; rfl
                have hall2 := fun W => (hk' W) ▸ hall W
                clear hR hq t3 hdr hfin hk' hall hmm
                go_enter Tryz.func11, Tryz.ntmps11
                go_upto_region 1 with (fail)
                rw [← hX]
                clear hX
                go_wp2_with (first | (go_at_call 30; refine (hline _).mono ?_; rintro e w1 ⟨rfl, rfl⟩) | (go_at_call 31; refine (hword _).mono ?_; rintro e w4 ⟨rfl, n4, rfl⟩) | (go_at_call 32; refine (h32 _).mono ?_; rintro e w5 ⟨rfl, rfl⟩) | (go_at_call 33; refine (h33 _).mono ?_; rintro e w5 ⟨rfl, rfl⟩))
                refine (hall2 _).mono ?_
                rintro e w6 ⟨⟨ad, cap, rfl, hrow⟩, hb6⟩
                have hbn := (below_drewN' X n4).trans (hb6.mono (below_drewN' X n4).size)
                have K4 := Lib.hid (blk_under HkX.out hbn)
                have B4 := Lib.hid (HbX.out.trans (hbn.mono HbX.out.size))
                have hxz := HkX.out
                have hlt := blk_lt hxz
                have Hrow := Lib.hid (row_base hrow (show w.heap.size + 1 ≤ (X.drewN n4).heap.size from Nat.lt_of_lt_of_le hlt (below_drewN' X n4).size))
                clear hb6 hbn hall2 hxz hrow
                obtain ⟨a0, a1, a2, a3⟩ := box4 K4.out
                obtain ⟨f0, f1, f2, f3⟩ := frz4 K4.out
                have hl0 := blk_lt K4.out
                go_wp2
                obtain ⟨V, hV⟩ : ∃ V, V = (((w6.setCell ⟨w.heap.size, 0, none⟩ (S u1)).setCell ⟨w.heap.size, 1, none⟩ (S u2)).setCell ⟨w.heap.size, 2, none⟩ (.slice ad hs.length cap)).setCell ⟨w.heap.size, 3, none⟩ (S b) := ⟨_, rfl⟩
                rw [← hV]
                obtain ⟨hkV, hgV⟩ := put4 K4.out _ _ _ _ hV
                obtain ⟨k0, k1, k2, k3⟩ := box4 hkV
                clear hV a0 a1 a2 a3 f0 f1 f2 f3
                refine bodyPost_ret (by simp [results, Tryz.results11, go_sem, k0, k1, k2, k3]; try rfl) rfl ?_
                have hrv := row_far Hrow.out hgV (by omega)
                exact ⟨grown_below B4.out hgV (Nat.le_refl _) hl0, ad, hs.length, cap, by rw [← Hfin.out], rfl, (HRow.hds hrv).2⟩
            · have t30 : ¬ u3 = [72, 84, 84, 80, 47, 49, 46, 49] := t3
              have t3' : (u3 != [72, 84, 84, 80, 47, 49, 46, 49]) = true := by simpa using t30
              have t3'' : (u3 == [72, 84, 84, 80, 47, 49, 46, 49]) = false := by simpa using t30
              rw [show decide (u3 = H.version) = false from decide_eq_false t3] at hq
              simp only [Bool.false_eq_true, if_false] at hq
              obtain ⟨rfl, rfl, rfl⟩ := trip hq
              clear hq t3 t30
              go_enter Tryz.func11, Tryz.ntmps11
              go_upto_region 1 with (fail)
              rw [← hX]
              clear hX
              go_upto_region 8 with (first | (go_at_call 30; refine (hline _).mono ?_; rintro e w1 ⟨rfl, rfl⟩) | (go_at_call 31; refine (hword _).mono ?_; rintro e w4 ⟨rfl, n4, rfl⟩) | (go_at_call 32; refine (h32 _).mono ?_; rintro e w5 ⟨rfl, rfl⟩) | (go_at_call 33; refine (h33 _).mono ?_; rintro e w5 ⟨rfl, rfl⟩))
              have hbn := below_drewN' X n4
              have K4 := Lib.hid (blk_under HkX.out hbn)
              have B4 := Lib.hid (HbX.out.trans (hbn.mono HbX.out.size))
              obtain ⟨Z, hZ⟩ : ∃ Z, Z = X.drewN n4 := ⟨_, rfl⟩
              rw [← hZ] at K4 B4 ⊢
              clear hbn hZ
              obtain ⟨a0, a1, a2, a3⟩ := box4 K4.out
              obtain ⟨f0, f1, f2, f3⟩ := frz4 K4.out
              have hl0 := blk_lt K4.out
              go_wp2
              obtain ⟨V, hV⟩ : ∃ V, V = (((Z.setCell ⟨w.heap.size, 0, none⟩ (S [])).setCell ⟨w.heap.size, 1, none⟩ (S [])).setCell ⟨w.heap.size, 2, none⟩ (.slice none 0 0)).setCell ⟨w.heap.size, 3, none⟩ (S []) := ⟨_, rfl⟩
              rw [← hV]
              obtain ⟨hkV, hgV⟩ := put4 K4.out _ _ _ _ hV
              obtain ⟨k0, k1, k2, k3⟩ := box4 hkV
              clear hV a0 a1 a2 a3 f0 f1 f2 f3
              refine bodyPost_ret (by simp [results, Tryz.results11, go_sem, k0, k1, k2, k3]; try rfl) rfl ?_
              exact ⟨grown_below B4.out hgV (Nat.le_refl _) hl0, none, 0, 0, rfl, rfl, fun h => absurd rfl h⟩
  · rw [if_neg hm] at hq
    obtain ⟨rfl, rfl, rfl⟩ := trip hq
    clear hq
    by_cases h0 : most < 0
    · skip
      go_enter Tryz.func11, Tryz.ntmps11
      go_upto_region 1 with (fail)
      rw [← hX]
      clear hX
      obtain ⟨a0, a1, a2, a3⟩ := box4 HkX.out
      obtain ⟨f0, f1, f2, f3⟩ := frz4 HkX.out
      have hl0 := blk_lt HkX.out
      go_wp2
      obtain ⟨V, hV⟩ : ∃ V, V = (((X.setCell ⟨w.heap.size, 0, none⟩ (S [])).setCell ⟨w.heap.size, 1, none⟩ (S [])).setCell ⟨w.heap.size, 2, none⟩ (.slice none 0 0)).setCell ⟨w.heap.size, 3, none⟩ (S []) := ⟨_, rfl⟩
      rw [← hV]
      obtain ⟨hkV, hgV⟩ := put4 HkX.out _ _ _ _ hV
      obtain ⟨k0, k1, k2, k3⟩ := box4 hkV
      clear hV a0 a1 a2 a3 f0 f1 f2 f3
      refine bodyPost_ret (by simp [results, Tryz.results11, go_sem, k0, k1, k2, k3]; try rfl) rfl ?_
      exact ⟨grown_below HbX.out hgV (Nat.le_refl _) hl0, none, 0, 0, rfl, rfl, fun h => absurd rfl h⟩
    · have h1 : 65536 < most := by simp [H.okMost] at hm; omega
      go_enter Tryz.func11, Tryz.ntmps11
      go_upto_region 1 with (fail)
      rw [← hX]
      clear hX
      obtain ⟨a0, a1, a2, a3⟩ := box4 HkX.out
      obtain ⟨f0, f1, f2, f3⟩ := frz4 HkX.out
      have hl0 := blk_lt HkX.out
      go_wp2
      obtain ⟨V, hV⟩ : ∃ V, V = (((X.setCell ⟨w.heap.size, 0, none⟩ (S [])).setCell ⟨w.heap.size, 1, none⟩ (S [])).setCell ⟨w.heap.size, 2, none⟩ (.slice none 0 0)).setCell ⟨w.heap.size, 3, none⟩ (S []) := ⟨_, rfl⟩
      rw [← hV]
      obtain ⟨hkV, hgV⟩ := put4 HkX.out _ _ _ _ hV
      obtain ⟨k0, k1, k2, k3⟩ := box4 hkV
      clear hV a0 a1 a2 a3 f0 f1 f2 f3
      refine bodyPost_ret (by simp [results, Tryz.results11, go_sem, k0, k1, k2, k3]; try rfl) rfl ?_
      exact ⟨grown_below HbX.out hgV (Nat.le_refl _) hl0, none, 0, 0, rfl, rfl, fun h => absurd rfl h⟩
end Go.Proofs.YtjkinjfbjbehjaaGreatDoor
