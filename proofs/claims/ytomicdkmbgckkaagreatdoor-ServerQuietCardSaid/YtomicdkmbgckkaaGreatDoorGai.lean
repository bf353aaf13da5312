/- HTTP: THE WALKS OVER whole, at base 10 and 16. -/
import Derived.Test.YtomicdkmbgckkaaGreatDoorGah
import Derived.Lib.AtoiErrMem
namespace Go.Proofs.YtomicdkmbgckkaaGreatDoor
open Go.RowKit
set_option maxRecDepth 100000
set_option linter.unusedVariables false
set_option linter.unusedSimpArgs false

theorem S_list (l : H.T) : (⟨l.toArray⟩ : ByteArray).data.toList = l := by simp
/-- what ParseUint answers, of what is a number or is none -/
def Got (o : Option Nat) (v : Int) (err : Value) : Prop := match o with | some n => err = .nilIface ∧ v = (n : Int) | none => err ≠ .nilIface
def Errp (err : Value) : Prop := err = .nilIface ∨ ∃ N, err = .iface 148 (.pointer (some ⟨N, 0, none⟩))
/-- the public ParseUint at base 10 -/
theorem parse10_any (w : World) (l : H.T) (hl : l.length ≤ 1000000) (hT : Tabs w) :
    Calls Tryz.prog 67 #[S l, .int .i64 10, .int .i64 64] w fun e w' => (∃ v err, e = .returned (.tuple #[.int .u64 v, err]) ∧ Errp err ∧
      (l.length ≤ 1000000 → Got (H.decO l) v err)) ∧ Below w.heap.size w w' := by
  cases hp : Lib.parseUintB 64 l with
  | ok u =>
    refine (Tryz.strconv_ParseUint_10_at64_ok ⟨l.toArray⟩ (by rw [S_size]; omega) u (by rw [S_list]; exact hp) w).mono fun e w' h => ?_
    obtain ⟨h1, h2⟩ := h
    refine ⟨⟨_, _, h1, .inl rfl, fun _ => by unfold H.decO; rw [hp]; exact ⟨rfl, rfl⟩⟩, ?_⟩
    rcases h2 with rfl | rfl
    · exact Below.refl _ _
    · exact Lib.bytesWorld_below w 5 _
  | range =>
    obtain ⟨te, pe, he⟩ := hT.e3
    refine (Tryz.strconv_ParseUint_10_at64_range ⟨l.toArray⟩ (by rw [S_size]; omega) (by rw [S_list]; exact hp) _ w he (.inr ⟨te, pe, rfl⟩)).mono fun e w' h => ?_
    obtain ⟨N, h1, _, _, hb⟩ := h
    exact ⟨⟨_, _, h1, .inr ⟨N, rfl⟩, fun _ => by unfold H.decO; rw [hp]; exact fun e => by cases e⟩, hb⟩
  | _ =>
    obtain ⟨te, pe, he⟩ := hT.e2
    refine (Tryz.strconv_ParseUint_10_at64_syntax ⟨l.toArray⟩ (by rw [S_size]; omega) (by rw [S_list]; exact hp) _ w he (.inr ⟨te, pe, rfl⟩)).mono fun e w' h => ?_
    obtain ⟨N, h1, _, _, hb⟩ := h
    exact ⟨⟨_, _, h1, .inr ⟨N, rfl⟩, fun _ => by unfold H.decO; rw [hp]; exact fun e => by cases e⟩, hb⟩
theorem Got.err {o : Option Nat} {v v' : Int} {e1 e2 : Value} (h : Got o v e1) (h1 : e1 ≠ .nilIface) (h2 : e2 ≠ .nilIface) : Got o v' e2 := by
  unfold Got at *
  cases o with
  | none => exact h2
  | some n => exact absurd h.1 h1
set_option maxHeartbeats 1000000 in
theorem parse16_any (w : World) (l : H.T) (hl : l.length ≤ 1000000) (hT : Tabs w) :
    Calls Tryz.prog 67 #[S l, .int .i64 16, .int .i64 64] w fun e w' => (∃ v err, e = .returned (.tuple #[.int .u64 v, err]) ∧ Errp err ∧
      (l.length ≤ 8 → Got (H.hexO l) v err)) ∧ Below w.heap.size w w' := by
  have HT := Lib.hid hT
  have hsz : (⟨l.toArray⟩ : ByteArray).size ≤ 281474976710656 := by rw [S_size]; omega
  have Hsz := Lib.hid hsz
  clear hT hsz
  go_enter Tryz.func67, Tryz.ntmps67
  go_wp2_with fail
  refine (iparse_any w l (by omega)).mono ?_
  rintro e w1 ⟨⟨v, err, rfl, hv0, hv1, herr, hnm0⟩, hb⟩
  have hnm : l.length ≤ 8 → Got (H.hexO l) v err := fun h8 => by
    have := hnm0 h8
    unfold Got
    cases hx : H.hexO l <;> rw [hx] at this <;> exact this
  have Hb := Lib.hid hb
  have Hnm := Lib.hid hnm
  clear hnm0
  have HT1 := Lib.hid (HT.out.under hb)
  clear hb hnm
  rcases herr with rfl | rfl | rfl
  · go_wp2
    go_ret2
    exact ⟨⟨_, _, rfl, .inl rfl, Hnm.out⟩, Hb.out⟩
  · obtain ⟨te, pe, he⟩ := HT1.out.e3
    have Hte := Lib.hid (Tryz.strconv_toError_range ⟨#[80, 97, 114, 115, 101, 85, 105, 110, 116]⟩ ⟨l.toArray⟩ 16 64 _ w1 Hsz.out he (.inr ⟨te, pe, rfl⟩))
    clear he
    go_wp2_with fail
    refine (Hte.out).mono ?_
    rintro e w2 ⟨N, rfl, _, _, hb2⟩
    have Hb2 := Lib.hid (Hb.out.trans (hb2.mono Hb.out.size))
    clear hb2
    go_wp2
    go_ret2
    exact ⟨⟨_, _, rfl, .inr ⟨N, rfl⟩, fun h8 => Got.err (Hnm.out h8) (by simp) (by simp)⟩, Hb2.out⟩
  · obtain ⟨te, pe, he⟩ := HT1.out.e2
    have Hte := Lib.hid (Tryz.strconv_toError_syntax ⟨#[80, 97, 114, 115, 101, 85, 105, 110, 116]⟩ ⟨l.toArray⟩ 16 64 _ w1 Hsz.out he (.inr ⟨te, pe, rfl⟩))
    clear he
    go_wp2_with fail
    refine (Hte.out).mono ?_
    rintro e w2 ⟨N, rfl, _, _, hb2⟩
    have Hb2 := Lib.hid (Hb.out.trans (hb2.mono Hb.out.size))
    clear hb2
    go_wp2
    go_ret2
    exact ⟨⟨_, _, rfl, .inr ⟨N, rfl⟩, fun h8 => Got.err (Hnm.out h8) (by simp) (by simp)⟩, Hb2.out⟩
/-- whole, given what ParseUint says -/
theorem whole_of (w : World) (l : H.T) (base : Int) (d : Nat) (o : Option Nat)
    (hp : Calls Tryz.prog 67 #[S l, .int .i64 base, .int .i64 64] w fun e w' => (∃ v err, e = .returned (.tuple #[.int .u64 v, err]) ∧ Errp err ∧ (l.length ≤ d → Got o v err)) ∧ Below w.heap.size w w') :
    Calls Tryz.prog 40 #[S l, .int .i64 base, .int .i64 (d : Int)] w fun e w' => Below w.heap.size w w' ∧ match H.wholeO o l d with | .ok n => e = .returned (.int .u64 (n : Int)) | .error c => e = pan c := by
  have Hp := Lib.hid hp
  clear hp
  obtain ⟨z, hz⟩ : ∃ z : Int, ((l.length : Nat) : Int) = z := ⟨_, rfl⟩
  obtain ⟨y, hy⟩ : ∃ y : Int, ((d : Nat) : Int) = y := ⟨_, rfl⟩
  rw [hy]
  unfold H.wholeO
  by_cases hs : l.length ≤ d
  · rw [if_pos hs]
    have hzy : z ≤ y := by omega
    cases o with
    | none =>
      simp only
      go_enter Tryz.func40, Tryz.ntmps40
      go_wp2_with fail
      refine Hp.out.mono ?_
      rintro e w1 ⟨⟨v, err, rfl, herr, hif⟩, hb⟩
      have hn := hif hs
      have Hb := Lib.hid hb
      clear hb Hp
      rcases herr with rfl | ⟨N, rfl⟩
      · exact absurd rfl hn
      · clear hif hn
        go_wp2_with (refine (unless_no _ _).mono ?_; rintro e w2 ⟨rfl, rfl⟩)
        exact ⟨rfl, Hb.out, rfl⟩
    | some n =>
      simp only
      go_enter Tryz.func40, Tryz.ntmps40
      go_wp2_with fail
      refine Hp.out.mono ?_
      rintro e w1 ⟨⟨v, err, rfl, herr, hif⟩, hb⟩
      obtain ⟨rfl, rfl⟩ := hif hs
      have Hb := Lib.hid hb
      clear hb Hp hif herr
      go_wp2_with (refine (unless_yes _ _).mono ?_; rintro e w2 ⟨rfl, rfl⟩)
      go_ret
      exact ⟨Hb.out, rfl⟩
  · rw [if_neg hs]
    have hzy : ¬ z ≤ y := by omega
    have Hq := Lib.hid (show decide (z ≤ y) = false from by simpa using hzy)
    simp only
    go_enter Tryz.func40, Tryz.ntmps40
    go_wp2_with fail
    refine Hp.out.mono ?_
    rintro e w1 ⟨⟨v, err, rfl, herr, _⟩, hb⟩
    have Hb := Lib.hid hb
    clear hb Hp hs hzy
    rcases herr with rfl | ⟨N, rfl⟩
    · go_wp2_with (go_at_call 29; rw [Hq.out]; refine (unless_no _ _).mono ?_; rintro e w2 ⟨rfl, rfl⟩)
      exact ⟨rfl, Hb.out, rfl⟩
    · go_wp2_with (refine (unless_no _ _).mono ?_; rintro e w2 ⟨rfl, rfl⟩)
      exact ⟨rfl, Hb.out, rfl⟩
theorem whole10_any (w : World) (l : H.T) (d : Nat) (hl : l.length ≤ 1000000) (hT : Tabs w) :
    Calls Tryz.prog 40 #[S l, .int .i64 10, .int .i64 (d : Int)] w fun e w' => Below w.heap.size w w' ∧ match H.whole10 l d with | .ok n => e = .returned (.int .u64 (n : Int)) | .error c => e = pan c :=
  whole_of w l 10 d _ ((parse10_any w l hl hT).mono fun e w' ⟨⟨v, err, h1, h2, h3⟩, hb⟩ => ⟨⟨v, err, h1, h2, fun _ => h3 hl⟩, hb⟩)
theorem whole16_any (w : World) (l : H.T) (hl : l.length ≤ 1000000) (hT : Tabs w) :
    Calls Tryz.prog 40 #[S l, .int .i64 16, .int .i64 8] w fun e w' => Below w.heap.size w w' ∧ match H.whole16 l with | .ok n => e = .returned (.int .u64 (n : Int)) | .error c => e = pan c :=
  whole_of w l 16 8 _ ((parse16_any w l hl hT).mono fun e w' ⟨⟨v, err, h1, h2, h3⟩, hb⟩ => ⟨⟨v, err, h1, h2, h3⟩, hb⟩)
end Go.Proofs.YtomicdkmbgckkaaGreatDoor

/- HTTP: THE WALKS OVER part, chunkSize, end, mustSay. -/
namespace Go.Proofs.YtomicdkmbgckkaaGreatDoor
open Go.RowKit
set_option maxRecDepth 100000
set_option linter.unusedVariables false
set_option linter.unusedSimpArgs false

theorem part_any (w : World) (g : Nat) (l : H.T) (most : Int) (hc : Crs w g l most) (hl : l.length ≤ 281474976710656) (hm : H.okMost most) (n a : Nat) (hn : n < 18446744073709551616) (ha : (a : Int) ≤ most) :
    Calls Tryz.prog 39 #[.pointer (some ⟨g, 0, none⟩), .int .u64 (n : Int), .int .i64 (a : Int)] w (Read w g most (H.part most n a l) fun t _ v => v = S t) := by
  have c0 := hc.c0
  have c1 := hc.c1
  have hlt := hc.lt
  have hH := Lib.hid hc
  obtain ⟨hm0, hm1⟩ := hm
  obtain ⟨z, hz⟩ : ∃ z : Int, ((l.length : Nat) : Int) = z := ⟨_, rfl⟩
  obtain ⟨x, hx⟩ : ∃ x : Int, ((n : Nat) : Int) = x := ⟨_, rfl⟩
  obtain ⟨y, hy⟩ : ∃ y : Int, ((a : Nat) : Int) = y := ⟨_, rfl⟩
  have hz0 : 0 ≤ z := by omega
  have hw1 : IntKind.i64.wrap (most - y) = most - y := by rw [IntKind.wrap_i64]; omega
  have hw2 : IntKind.u64.wrap (most - y) = most - y := by rw [IntKind.wrap_u64]; omega
  have hw3 : IntKind.u64.wrap z = z := by rw [IntKind.wrap_u64]; omega
  unfold H.part
  rw [hx, hy]
  by_cases h1 : x ≤ most - y
  · rw [if_neg (by simpa using h1)]
    have hw4 : IntKind.i64.wrap x = x := by rw [IntKind.wrap_i64]; omega
    by_cases h2 : n ≤ l.length
    · rw [if_neg (by simpa using h2)]
      have h2' : x ≤ z := by omega
      have ht := take_any w g l most n hc h2 hl
      rw [hx] at ht
      clear hc
      go_enter Tryz.func39, Tryz.ntmps39
      go_wp2_with (first | (go_at_call 29; with_reducible refine (unless_yes _ _).mono ?_; rintro e w' ⟨rfl, rfl⟩) | (go_at_call 52; refine ht.mono ?_; rintro e w' ⟨rfl, rfl⟩))
      go_ret
      exact Read.ok (set_grown _ g _) rfl (hH.out.set _)
    · rw [if_pos (by simpa using h2)]
      have Hq := Lib.hid (show decide (x ≤ z) = false from by simp; omega)
      clear hc
      go_enter Tryz.func39, Tryz.ntmps39
      go_wp2_with (go_at_call 29; first | (with_reducible refine (unless_yes _ _).mono ?_; rintro e w' ⟨rfl, rfl⟩) | (rw [Hq.out]; refine (unless_no _ _).mono ?_; rintro e w' ⟨rfl, rfl⟩))
      exact ⟨rfl, Read.err (below_grown (Below.refl _ _) _)⟩
  · rw [if_pos (by simpa using h1)]
    have Hq := Lib.hid (show decide (x ≤ most - y) = false from by simpa using h1)
    clear hc
    go_enter Tryz.func39, Tryz.ntmps39
    go_wp2_with (go_at_call 29; first | (with_reducible refine (unless_no _ _).mono ?_; rintro e w' ⟨rfl, rfl⟩) | (rw [Hq.out]; refine (unless_no _ _).mono ?_; rintro e w' ⟨rfl, rfl⟩))
    exact ⟨rfl, Read.err (below_grown (Below.refl _ _) _)⟩

set_option maxHeartbeats 1000000 in
theorem chunkSize_any (w : World) (g : Nat) (l : H.T) (most : Int) (hc : Crs w g l most) (hl : l.length ≤ 281474976710656) (hT : Tabs w) (h8 : 8 ≤ g) :
    Calls Tryz.prog 62 #[.pointer (some ⟨g, 0, none⟩)] w (Read w g most (H.chunkSize l) fun n _ v => v = .int .u64 (n : Int)) := by
  unfold H.chunkSize
  cases hr : H.line l with
  | error c =>
    have hq := line_err hc hl hr
    simp only
    clear hr hc hT
    go_enter Tryz.func62, Tryz.ntmps62
    go_wp2_with (refine hq.mono ?_; rintro e w1 ⟨rfl, hg⟩)
    exact ⟨rfl, Read.err hg⟩
  | ok p =>
    obtain ⟨t, r⟩ := p
    have hq := line_ok hc hl hr
    have hlen := (H.line_len hr).1
    simp only
    obtain ⟨a, ha⟩ : ∃ a, Lib.cut t [59] = a := ⟨_, rfl⟩
    obtain ⟨a1, a2, a3⟩ := a
    have hal := cut_len t [59]
    rw [ha] at hal ⊢
    simp only at hal ⊢
    have hcA : ∀ w, (∃ m, w.cell? ⟨0, 0, none⟩ = some (.int .i64 m)) → Calls Tryz.prog 30 #[S t, .string ⟨#[59]⟩] w fun e w' => e = .returned (.tuple #[S a1, S a2, .bool a3]) ∧ ∃ n, w' = w.drewN n := fun w hm => by
      have := cut_any w t 59 (by omega) hm; rw [ha] at this; exact this
    have hw := fun w hT => whole16_any w a1 (by omega) hT
    have HT := Lib.hid hT
    have hlt := hc.lt
    clear ha hr hc hal hlen hT
    cases hx : H.whole16 a1 with
    | error c =>
      rw [hx] at hw
      simp only at hw ⊢
      clear hx
      go_enter Tryz.func62, Tryz.ntmps62
      go_wp2_with fail
      refine hq.mono ?_
      rintro e w1 ⟨rfl, hg, hc1⟩
      have HT1 := Lib.hid (HT.out.grown hg h8 hlt)
      have HG := Lib.hid (Go1.mk hg hc1)
      clear hg hc1 hq HT
      go_wp2_with fail
      refine (hcA w1 HT1.out.m).mono ?_
      rintro e w2 ⟨rfl, n2, rfl⟩
      have hb := below_drewN' w1 n2
      have HT2 := Lib.hid (HT1.out.under hb)
      have HG2 := Lib.hid (HG.out.below hb)
      clear hb HT1 HG
      go_wp2_with fail
      refine (hw _ HT2.out).mono ?_
      rintro e w3 ⟨hb, rfl⟩
      have HG3 := Lib.hid (HG2.out.below hb)
      clear hb
      go_wp2
      exact ⟨rfl, Read.err HG3.out.gr⟩
    | ok n =>
      rw [hx] at hw
      simp only at hw ⊢
      clear hx
      go_enter Tryz.func62, Tryz.ntmps62
      go_wp2_with fail
      refine hq.mono ?_
      rintro e w1 ⟨rfl, hg, hc1⟩
      have HT1 := Lib.hid (HT.out.grown hg h8 hlt)
      have HG := Lib.hid (Go1.mk hg hc1)
      clear hg hc1 hq HT
      go_wp2_with fail
      refine (hcA w1 HT1.out.m).mono ?_
      rintro e w2 ⟨rfl, n2, rfl⟩
      have hb := below_drewN' w1 n2
      have HT2 := Lib.hid (HT1.out.under hb)
      have HG2 := Lib.hid (HG.out.below hb)
      clear hb HT1 HG
      go_wp2_with fail
      refine (hw _ HT2.out).mono ?_
      rintro e w3 ⟨hb, rfl⟩
      have HG3 := Lib.hid (HG2.out.below hb)
      clear hb
      go_wp2
      go_ret
      exact Read.ok HG3.out.gr rfl HG3.out.c
end Go.Proofs.YtomicdkmbgckkaaGreatDoor
