/- HTTP: THE WALK OVER write, WITHOUT HEADS. -/
import Derived.Test.YtjkinjfbjbehjaaGreatDoorGam
import Derived.Lib.ItoaLen
import Derived.Lib.AppendIntMem
namespace Go.Proofs.YtjkinjfbjbehjaaGreatDoor
open Go.RowKit
set_option maxRecDepth 100000
set_option linter.unusedVariables false
set_option linter.unusedSimpArgs false

theorem S_app (a b : H.T) : (⟨a.toArray⟩ : ByteArray) ++ ⟨b.toArray⟩ = ⟨(a ++ b).toArray⟩ := by
  apply ByteArray.ext
  simp [ByteArray.data_append]
theorem idx_nil (w : World) (f : Value) : Calls Tryz.prog 39 #[.slice none 0 0, f] w fun e w' => e = .returned (.int .i64 (-1)) ∧ Below w.heap.size w w' := by
  go_enter Tryz.func39, Tryz.ntmps39
  go_wp2
  go_loopw [8] (fun u wr => u = .int .i64 0 ∧ wr = w) (fun _ _ => 0)
  case atStart => exact ⟨rfl, rfl⟩
  case round =>
    obtain ⟨rfl, rfl⟩ := hrel
    go_wp2
    go_ret
    exact ⟨rfl, Below.refl _ _⟩
theorem has_nil (w : World) (f : Value) : Calls Tryz.prog 75 #[.slice none 0 0, f] w fun e w' => e = .returned (.bool false) ∧ Below w.heap.size w w' := by
  have hi := idx_nil w f
  go_enter Tryz.func75, Tryz.ntmps75
  go_wp2_with (refine hi.mono ?_; rintro e w' ⟨rfl, hb⟩)
  go_ret
  exact ⟨rfl, hb⟩
theorem headLine_any (w : World) (n v : H.T) (hn : n.length + v.length ≤ 1000000) : Calls Tryz.prog 78 #[.agg #[S n, S v]] w fun e w' => e = .returned (S (n ++ [58, 32] ++ v)) ∧ Below w.heap.size w w' := by
  obtain ⟨X, hX⟩ : ∃ X, X = w.alloc (.cells #[S n, S v] 73) := ⟨_, rfl⟩
  have hx : X.heap[w.heap.size]? = some (.cells #[S n, S v] 73 (0, 0)) := by rw [hX]; exact blk_new w _
  have hb : Below w.heap.size w X := by rw [hX]; exact (Below.refl _ w).alloc (Nat.le_refl _) _
  obtain ⟨c0, c1⟩ := box2 hx
  have hlt := blk_lt hx
  have e1 : (⟨n.toArray⟩ : ByteArray) ++ ⟨#[58, 32]⟩ = ⟨(n ++ [58, 32]).toArray⟩ := S_app n [58, 32]
  have e2 := S_app (n ++ [58, 32]) v
  go_enter Tryz.func78, Tryz.ntmps78
  go_upto_region 1 with (fail)
  rw [← hX]
  clear hX hx
  go_wp2
  go_ret
  exact ⟨by show Ending.returned (Value.string ⟨(n ++ 58 :: 32 :: v).toArray⟩) = _; simp, hb⟩
/-- what is written, without heads -/
def H.wlen (body : H.T) : H.T := H.lengthN ++ [58, 32] ++ Lib.itoa (body.length : Int)
def H.wout (first body : H.T) : H.T := first ++ 13 :: 10 :: (H.wlen body ++ 13 :: 10 :: 13 :: 10 :: body)
theorem isB_under {B b : Nat} {l : H.T} {w w' : World} (h : IsB B b l w) (hb : Below w.heap.size w w') : IsB B b l w' := by
  have key : ∀ p, Lib.BuilderAt 104 5 B b p (Lib.byteCells l) w → Lib.BuilderAt 104 5 B b p (Lib.byteCells l) w' := fun p ⟨hB, v, hb2, hown, hne⟩ =>
    ⟨hB, v, blk_under hb2 hb, row_below hown hb, hne⟩
  exact h.elim (fun x => .inl (key _ x)) (fun x => .inr (key _ x))
theorem itoa_le (n : Nat) (h : n ≤ 65536) : (Lib.itoa (n : Int)).length ≤ 100 := Nat.le_trans (Lib.itoa_length_le _ (by omega) (by omega)) (by decide)
set_option maxHeartbeats 4000000 in
theorem write_nil (w : World) (first body : H.T) (hf : first.length ≤ 140737488355000) (hb : body.length ≤ 140737488355000) (hT : Tabs w) :
    Calls Tryz.prog 45 #[S first, .slice none 0 0, S body] w fun e w' => Below w.heap.size w w' ∧ e = .returned (if first.length ≤ 4096 ∧ body.length ≤ 65536 then .tuple #[S (H.wout first body), .int .i64 0] else .tuple #[S [], .int .i64 13]) := by
  obtain ⟨z, hz⟩ : ∃ z : Int, ((first.length : Nat) : Int) = z := ⟨_, rfl⟩
  obtain ⟨y, hy⟩ : ∃ y : Int, ((body.length : Nat) : Int) = y := ⟨_, rfl⟩
  by_cases h1 : first.length ≤ 4096
  · have h1' : ¬ (4096 : Int) < z := by omega
    by_cases h2 : body.length ≤ 65536
    · have h2' : ¬ (65536 : Int) < y := by omega
      have hn0 := has_nil w (.func (.func 76) #[] #[])
      rw [if_pos ⟨h1, h2⟩]
      have e1 : (⟨first.toArray⟩ : ByteArray) ++ ⟨#[13, 10]⟩ = ⟨(first ++ [13, 10]).toArray⟩ := S_app first [13, 10]
      have e2 : (⟨(H.wlen body).toArray⟩ : ByteArray) ++ ⟨#[13, 10]⟩ = ⟨(H.wlen body ++ [13, 10]).toArray⟩ := S_app _ [13, 10]
      have e3 : (⟨#[13, 10]⟩ : ByteArray) ++ ⟨body.toArray⟩ = ⟨(13 :: 10 :: body).toArray⟩ := S_app [13, 10] body
      have hil := itoa_le body.length h2
      have hwl : (H.wlen body).length ≤ 200 := by
        have h14 : H.lengthN.length = 14 := rfl
        unfold H.wlen
        simp only [List.length_append, h14, List.length_cons, List.length_nil]
        omega
      have HT := Lib.hid hT
      have h8 := hT.sz
      have Hs := Lib.hid (And.intro h1 h2)
      have Hwl := Lib.hid (And.intro hwl hil)
      clear hT hil
      go_enter Tryz.func45, Tryz.ntmps45
      go_upto_region 3 with (go_at_call 75; refine hn0.mono ?_; rintro e w1 ⟨rfl, hb1⟩)
      have HT1 := Lib.hid (HT.out.under hb1)
      obtain ⟨X, hX⟩ : ∃ X, X = w1.alloc (.cells #[.pointer none, .slice none 0 0] 104) := ⟨_, rfl⟩
      have hbX : Below w1.heap.size w1 X := by rw [hX]; exact (Below.refl _ w1).alloc (Nat.le_refl _) _
      have HB := Lib.hid (show IsB w1.heap.size w1.heap.size [] X from by rw [hX]; exact Lib.fresh_isBuilder 104 5 w1)
      have HbX := Lib.hid (hb1.trans (hbX.mono hb1.size))
      have HTX := Lib.hid (HT1.out.under hbX)
      have hXs : w1.heap.size ≤ X.heap.size := hbX.size
      have hws := hb1.size
      clear hb1 hbX HT1 hn0 HT
      go_upto_region 4 with (fail)
      rw [← hX]
      clear hX
      go_wp2_with fail
      refine (write_str w1.heap.size w1.heap.size [] (first ++ [13, 10]) X HB.out (by have := Hs.out.1; simp only [List.length_nil, List.length_append, List.length_cons]; omega) hXs).mono ?_
      rintro e w2 ⟨rfl, hB2, hb2⟩
      have HB2 := Lib.hid hB2
      have HbB := Lib.hid hb2
      clear hB2 hb2 HB
      go_wp2
      go_loopw [33] (fun u wr => u = .int .i64 0 ∧ wr = w2) (fun _ _ => 0)
      case atStart => exact ⟨rfl, rfl⟩
      case round =>
        obtain ⟨rfl, rfl⟩ := hrel
        have hTw := HTX.out.keep (HbB.out.mono (by omega))
        have hit := Tryz.strconv_Itoa y (by omega) (by omega) wr hTw.pow
        have HbW := Lib.hid (HbX.out.trans (HbB.out.mono hws))
        have hrs := HbB.out.size
        have HTw := Lib.hid hTw
        clear hTw
        go_wp2_with fail
        refine hit.mono ?_
        rintro e w4 ⟨rfl, kk, os, hw4⟩
        have hb4 : Below wr.heap.size wr w4 := by rw [hw4]; exact Lib.below_grow _ _ (Nat.le_refl _) kk os
        have hBb4 : IsB w1.heap.size w1.heap.size (first ++ [13, 10]) w4 := by
          have := HB2.out
          simp only [List.nil_append] at this
          exact isB_under this hb4
        have Hb4 := Lib.hid hb4
        have HBb4 := Lib.hid hBb4
        clear hw4 hb4 hBb4 hit HB2
        have hl4 := headLine_any w4 H.lengthN (Lib.itoa y) (by have := Hwl.out.2; rw [hy] at this; have h14 : H.lengthN.length = 14 := rfl; omega)
        have hwy : H.lengthN ++ [58, 32] ++ Lib.itoa y = H.wlen body := by unfold H.wlen; rw [hy]
        rw [hwy] at hl4
        go_wp2_with fail
        refine hl4.mono ?_
        rintro e w5 ⟨rfl, hb5⟩
        have hs4 := Hb4.out.size
        have HBb5 := Lib.hid (isB_under HBb4.out hb5)
        have Hb5 := Lib.hid hb5
        clear hb5 hl4 HBb4
        have hs5 := Hb5.out.size
        go_wp2_with fail
        refine (write_str w1.heap.size w1.heap.size _ (H.wlen body ++ [13, 10]) w5 HBb5.out (by have := Hs.out.1; have := Hwl.out.1; simp only [List.length_append, List.length_cons, List.length_nil]; omega) (by omega)).mono ?_
        rintro e w6 ⟨rfl, hB6, hb6⟩
        have HB6 := Lib.hid hB6
        have Hb6 := Lib.hid hb6
        have hs6 := hb6.size
        clear hB6 hb6 HBb5
        go_wp2_with fail
        refine (write_str w1.heap.size w1.heap.size _ (13 :: 10 :: body) w6 HB6.out (by have := Hs.out; have := Hwl.out.1; simp only [List.length_append, List.length_cons, List.length_nil]; omega) (by omega)).mono ?_
        rintro e w7 ⟨rfl, hB7, hb7⟩
        have HB7 := Lib.hid hB7
        have Hb7 := Lib.hid hb7
        have hs7 := hb7.size
        clear hB7 hb7 HB6
        go_wp2_with fail
        refine (Tryz.Builder_String_any w1.heap.size w1.heap.size _ w7 HB7.out (by omega)).mono ?_
        rintro e w8 ⟨rfl, hb8⟩
        have Hb8 := Lib.hid hb8
        clear hb8
        go_wp2
        go_ret2
        have b1 : Below w.heap.size w w4 := HbW.out.trans (Hb4.out.mono (by omega))
        have b2 := b1.trans (Hb5.out.mono (by omega))
        have b3 := ((b2.trans (Hb6.out.mono hws)).trans (Hb7.out.mono hws)).trans (Hb8.out.mono hws)
        exact ⟨b3, rfl⟩
    · have h2' : (65536 : Int) < y := by omega
      rw [if_neg (fun h => h2 h.2)]
      go_enter Tryz.func45, Tryz.ntmps45
      go_wp2
      go_ret2
      exact ⟨Below.refl _ _, rfl⟩
  · have h1' : (4096 : Int) < z := by omega
    rw [if_neg (fun h => h1 h.1)]
    go_enter Tryz.func45, Tryz.ntmps45
    go_wp2
    go_ret2
    exact ⟨Below.refl _ _, rfl⟩
end Go.Proofs.YtjkinjfbjbehjaaGreatDoor

/- HTTP: THE WALKS OVER reason, WriteResponse (of 404), lives. -/
namespace Go.Proofs.YtjkinjfbjbehjaaGreatDoor
open Go.RowKit
set_option maxRecDepth 100000
set_option linter.unusedVariables false
set_option linter.unusedSimpArgs false

theorem rq_a : (H.readRequest [80, 79, 83, 84, 32, 47, 118, 49, 47, 108, 111, 103, 115, 32, 72, 84, 84, 80, 47, 49, 46, 49, 13, 10, 67, 111, 110, 116, 101, 110, 116, 45, 76, 101, 110, 103, 116, 104, 58, 32, 50, 13, 10, 13, 10, 104, 105] 10) = (⟨[80, 79, 83, 84], [47, 118, 49, 47, 108, 111, 103, 115], [], [104, 105]⟩, 47, 0) := by rfl
theorem rq_b : (H.readRequest [80, 79, 83, 84, 32, 47, 118, 49, 47, 108, 111, 103, 115, 32, 72, 84, 84, 80, 47, 49, 46, 49, 13, 10, 67, 111, 110, 116, 101, 110, 116, 45, 76, 101, 110, 103, 116, 104, 58, 32, 50, 13, 10, 13, 10, 104] 10).2.2 = 14 := by rfl
theorem rq_c : (H.readRequest [71, 69, 84, 32, 47, 32, 72, 84, 84, 80, 47, 49, 46, 48, 13, 10, 13, 10] 10).2.2 = 13 := by rfl
theorem it_404 : Lib.itoa 404 = [52, 48, 52] := by
  show Lib.decDigits 404 = _
  rw [Lib.decDigits, dif_neg (by decide), Lib.decDigits_two (by decide) (by decide)]
  rfl
theorem it_0 : Lib.itoa 0 = [48] := by
  show Lib.decDigits 0 = _
  rw [Lib.decDigits_one (by decide)]
  rfl
abbrev first404 : H.T := [72, 84, 84, 80, 47, 49, 46, 49, 32, 52, 48, 52, 32, 78, 111, 116, 32, 70, 111, 117, 110, 100]
abbrev out404 : H.T := [72, 84, 84, 80, 47, 49, 46, 49, 32, 52, 48, 52, 32, 78, 111, 116, 32, 70, 111, 117, 110, 100, 13, 10, 67, 111, 110, 116, 101, 110, 116, 45, 76, 101, 110, 103, 116, 104, 58, 32, 48, 13, 10, 13, 10]
theorem wr_404 : H.wout first404 [] = out404 := by
  unfold H.wout H.wlen
  rw [show Lib.itoa (([] : H.T).length : Int) = [48] from it_0]
  rfl
theorem reason_404 (w : World) : Calls Tryz.prog 50 #[.int .i64 404] w fun e w' => e = .returned (.string ⟨#[78, 111, 116, 32, 70, 111, 117, 110, 100]⟩) ∧ w' = w := by
  go_enter Tryz.func50, Tryz.ntmps50
  go_wp2
  go_ret
  exact ⟨rfl, rfl⟩
set_option maxHeartbeats 4000000 in
theorem resp_404 (w : World) (hT : Tabs w) : Calls Tryz.prog 21 #[.agg #[.int .i64 404, .slice none 0 0, .string ⟨#[]⟩]] w fun e w' => e = .returned (.tuple #[S out404, .int .i64 0]) ∧ Below w.heap.size w w' := by
  obtain ⟨X, hX⟩ : ∃ X, X = w.alloc (.cells #[.int .i64 404, .slice none 0 0, .string ⟨#[]⟩] 29) := ⟨_, rfl⟩
  have hbX : Below w.heap.size w X := by rw [hX]; exact (Below.refl _ w).alloc (Nat.le_refl _) _
  have hx : X.heap[w.heap.size]? = some (.cells #[.int .i64 404, .slice none 0 0, .string ⟨#[]⟩] 29 (0, 0)) := by rw [hX]; exact blk_new w _
  have c0 := cell_of_row X w.heap.size 0 _ 29 (0, 0) hx
  have c1 := cell_of_row X w.heap.size 1 _ 29 (0, 0) hx
  have c2 := cell_of_row X w.heap.size 2 _ 29 (0, 0) hx
  have hlx := blk_lt hx
  have HT := Lib.hid (hT.under hbX)
  have Hx := Lib.hid hx
  have HbX := Lib.hid hbX
  clear hT hx hbX
  go_enter Tryz.func21, Tryz.ntmps21
  go_upto_region 1 with (fail)
  rw [← hX]
  clear hX
  have eA : (⟨#[72, 84, 84, 80, 47, 49, 46, 49, 32]⟩ : ByteArray) ++ ⟨#[52, 48, 52]⟩ = ⟨#[72, 84, 84, 80, 47, 49, 46, 49, 32, 52, 48, 52]⟩ := by rfl
  have eB : (⟨#[72, 84, 84, 80, 47, 49, 46, 49, 32, 52, 48, 52]⟩ : ByteArray) ++ ⟨#[32]⟩ = ⟨#[72, 84, 84, 80, 47, 49, 46, 49, 32, 52, 48, 52, 32]⟩ := by rfl
  have eC : (⟨#[72, 84, 84, 80, 47, 49, 46, 49, 32, 52, 48, 52, 32]⟩ : ByteArray) ++ ⟨#[78, 111, 116, 32, 70, 111, 117, 110, 100]⟩ = ⟨#[72, 84, 84, 80, 47, 49, 46, 49, 32, 52, 48, 52, 32, 78, 111, 116, 32, 70, 111, 117, 110, 100]⟩ := by rfl
  have hit : ∀ W, Tabs W → Calls Tryz.prog 49 #[.int .i64 404] W fun e w' => e = .returned (.string ⟨#[52, 48, 52]⟩) ∧ Below W.heap.size W w' := fun W hW => by
    refine (Tryz.strconv_Itoa 404 (by decide) (by decide) W hW.pow).mono fun e w' h => ?_
    obtain ⟨h1, kk, os, h2⟩ := h
    rw [it_404] at h1
    exact ⟨h1, by rw [h2]; exact Lib.below_grow _ _ (Nat.le_refl _) kk os⟩
  have hwr : ∀ W, Tabs W → Calls Tryz.prog 45 #[.string ⟨#[72, 84, 84, 80, 47, 49, 46, 49, 32, 52, 48, 52, 32, 78, 111, 116, 32, 70, 111, 117, 110, 100]⟩, .slice none 0 0, .string ⟨#[]⟩] W fun e w' => e = .returned (.tuple #[S out404, .int .i64 0]) ∧ Below W.heap.size W w' := fun W hW => by
    refine (write_nil W first404 [] (by decide) (by decide) hW).mono fun e w' h => ?_
    rw [if_pos ⟨by decide, by decide⟩, wr_404] at h
    exact ⟨h.2, h.1⟩
  have bx : ∀ W : World, W.heap[w.heap.size]? = some (.cells #[.int .i64 404, .slice none 0 0, .string ⟨#[]⟩] 29 (0, 0)) → W.cell? ⟨w.heap.size, 0, none⟩ = some (.int .i64 404) ∧ W.cell? ⟨w.heap.size, 1, none⟩ = some (.slice none 0 0) ∧ W.cell? ⟨w.heap.size, 2, none⟩ = some (.string ⟨#[]⟩) := fun W h => ⟨cell_of_row W _ 0 _ 29 (0, 0) h, cell_of_row W _ 1 _ 29 (0, 0) h, cell_of_row W _ 2 _ 29 (0, 0) h⟩
  have Bx := Lib.hid bx
  clear bx
  go_wp2_with (go_at_call 48; refine (status_any _ 404).mono ?_; rintro e w2 ⟨rfl, rfl⟩)
  have hd := (Below.refl w2.heap.size w2).drew
  have Hx0 := Lib.hid (blk_under Hx.out hd)
  have HT0 := Lib.hid (HT.out.under hd)
  have Hb0 := Lib.hid (HbX.out.trans (hd.mono HbX.out.size))
  clear hd
  go_region_held3 (fun w' => w'.cell? ⟨w.heap.size, 0, none⟩ = some (.int .i64 404) ∧ w'.cell? ⟨w.heap.size, 1, none⟩ = some (.slice none 0 0) ∧ w'.cell? ⟨w.heap.size, 2, none⟩ = some (.string ⟨#[]⟩))
    (first | exact Bx.out _ Hx6.out | exact Bx.out _ Hx4.out | exact Bx.out _ Hx0.out | go_keep)
    (first | (go_at_call 49; refine (hit _ HT0.out).mono ?_; rintro e w4 ⟨rfl, hb4⟩; have Hx4 := Lib.hid (blk_under Hx0.out hb4); have HT4 := Lib.hid (HT0.out.under hb4); have Hb4 := Lib.hid (Hb0.out.trans (hb4.mono Hb0.out.size)); clear hb4) | (go_at_call 50; refine (reason_404 _).mono ?_; rintro e w5 ⟨rfl, rfl⟩) | (go_at_call 45; refine (hwr _ HT4.out).mono ?_; rintro e w6 ⟨rfl, hb6⟩; have Hx6 := Lib.hid (blk_under Hx4.out hb6); have Hb6 := Lib.hid (Hb4.out.trans (hb6.mono Hb4.out.size)); clear hb6))
  all_goals
    go_wp2
    go_ret2
    exact ⟨rfl, Hb6.out⟩
end Go.Proofs.YtjkinjfbjbehjaaGreatDoor

/- HTTP: THE WALK OVER lives. -/
namespace Go.Proofs.YtjkinjfbjbehjaaGreatDoor
open Go.RowKit
set_option maxRecDepth 100000
set_option linter.unusedVariables false
set_option linter.unusedSimpArgs false

theorem qout_form {w : World} {B : Nat} {q : H.Rq} {x : Value} (h : QOut w B q x) : ∃ ad n cap, x = .agg #[S q.method, S q.target, .slice ad n cap, S q.body] := by
  obtain ⟨v, rfl, hv⟩ := h
  obtain ⟨ad, cap, rfl⟩ := row_form hv
  exact ⟨ad, _, cap, rfl⟩
theorem la_any (W : World) (hT : Tabs W) : Calls Tryz.prog 10 #[.string ⟨#[80, 79, 83, 84, 32, 47, 118, 49, 47, 108, 111, 103, 115, 32, 72, 84, 84, 80, 47, 49, 46, 49, 13, 10, 67, 111, 110, 116, 101, 110, 116, 45, 76, 101, 110, 103, 116, 104, 58, 32, 50, 13, 10, 13, 10, 104, 105]⟩, .int .i64 10] W fun e w' => Below W.heap.size W w' ∧ ∃ m t ad n cap, e = .returned (.tuple #[.agg #[S m, S t, .slice ad n cap, .string ⟨#[104, 105]⟩], .int .i64 47, .int .i64 0]) := by
  refine (readRequest_any W [80, 79, 83, 84, 32, 47, 118, 49, 47, 108, 111, 103, 115, 32, 72, 84, 84, 80, 47, 49, 46, 49, 13, 10, 67, 111, 110, 116, 101, 110, 116, 45, 76, 101, 110, 103, 116, 104, 58, 32, 50, 13, 10, 13, 10, 104, 105] 10 (by decide) (by decide) hT).mono fun e w' h => ?_
  obtain ⟨hb, x, he, hq⟩ := h
  rw [rq_a] at he hq
  obtain ⟨ad, n, cap, rfl⟩ := qout_form hq
  exact ⟨hb, _, _, ad, n, cap, he⟩
theorem lb_any (W : World) (hT : Tabs W) : Calls Tryz.prog 10 #[.string ⟨#[80, 79, 83, 84, 32, 47, 118, 49, 47, 108, 111, 103, 115, 32, 72, 84, 84, 80, 47, 49, 46, 49, 13, 10, 67, 111, 110, 116, 101, 110, 116, 45, 76, 101, 110, 103, 116, 104, 58, 32, 50, 13, 10, 13, 10, 104]⟩, .int .i64 10] W fun e w' => Below W.heap.size W w' ∧ ∃ m t ad n cap b k, e = .returned (.tuple #[.agg #[S m, S t, .slice ad n cap, S b], .int .i64 k, .int .i64 14]) := by
  refine (readRequest_any W [80, 79, 83, 84, 32, 47, 118, 49, 47, 108, 111, 103, 115, 32, 72, 84, 84, 80, 47, 49, 46, 49, 13, 10, 67, 111, 110, 116, 101, 110, 116, 45, 76, 101, 110, 103, 116, 104, 58, 32, 50, 13, 10, 13, 10, 104] 10 (by decide) (by decide) hT).mono fun e w' h => ?_
  obtain ⟨hb, x, he, hq⟩ := h
  rw [rq_b] at he
  obtain ⟨ad, n, cap, rfl⟩ := qout_form hq
  exact ⟨hb, _, _, ad, n, cap, _, _, he⟩
theorem lc_any (W : World) (hT : Tabs W) : Calls Tryz.prog 10 #[.string ⟨#[71, 69, 84, 32, 47, 32, 72, 84, 84, 80, 47, 49, 46, 48, 13, 10, 13, 10]⟩, .int .i64 10] W fun e w' => Below W.heap.size W w' ∧ ∃ m t ad n cap b k, e = .returned (.tuple #[.agg #[S m, S t, .slice ad n cap, S b], .int .i64 k, .int .i64 13]) := by
  refine (readRequest_any W [71, 69, 84, 32, 47, 32, 72, 84, 84, 80, 47, 49, 46, 48, 13, 10, 13, 10] 10 (by decide) (by decide) hT).mono fun e w' h => ?_
  obtain ⟨hb, x, he, hq⟩ := h
  rw [rq_c] at he
  obtain ⟨ad, n, cap, rfl⟩ := qout_form hq
  exact ⟨hb, _, _, ad, n, cap, _, _, he⟩
set_option maxHeartbeats 4000000 in
theorem lives_any (w : World) (hT : Tabs w) : Calls Tryz.prog 16 #[] w fun e w' => e = .returned (.bool true) ∧ Below w.heap.size w w' := by
  have HT := Lib.hid hT
  clear hT
  go_enter Tryz.func16, Tryz.ntmps16
  go_wp2_with fail
  refine (la_any w HT.out).mono ?_
  rintro e w1 ⟨hb1, m1, t1, ad1, n1, cap1, rfl⟩
  obtain ⟨X1, hX⟩ : ∃ X, X = w1.alloc (.cells #[S m1, S t1, .slice ad1 n1 cap1, .string ⟨#[104, 105]⟩] 24) := ⟨_, rfl⟩
  have hbX : Below w1.heap.size w1 X1 := by rw [hX]; exact (Below.refl _ w1).alloc (Nat.le_refl _) _
  have H1 := Lib.hid (show X1.heap[w1.heap.size]? = some (.cells #[S m1, S t1, .slice ad1 n1 cap1, .string ⟨#[104, 105]⟩] 24 (0, 0)) from by rw [hX]; exact blk_new w1 _)
  have HB1 := Lib.hid (hb1.trans (hbX.mono hb1.size))
  have HT1 := Lib.hid ((HT.out.under hb1).under hbX)
  have hz1 := hbX.size
  clear hb1 hbX HT
  go_upto_region 2 with (fail)
  rw [← hX]
  clear hX
  go_wp2_with fail
  refine (lb_any X1 HT1.out).mono ?_
  rintro e w2 ⟨hb2, m2, t2, ad2, n2, cap2, b2, k2, rfl⟩
  obtain ⟨X2, hX⟩ : ∃ X, X = w2.alloc (.cells #[S m2, S t2, .slice ad2 n2 cap2, S b2] 24) := ⟨_, rfl⟩
  have hbX : Below w2.heap.size w2 X2 := by rw [hX]; exact (Below.refl _ w2).alloc (Nat.le_refl _) _
  have H2 := Lib.hid (blk_under (blk_under H1.out hb2) hbX)
  have HB2 := Lib.hid ((HB1.out.trans (hb2.mono HB1.out.size)).trans (hbX.mono (by have := HB1.out.size; have := hb2.size; omega)))
  have HT2 := Lib.hid ((HT1.out.under hb2).under hbX)
  clear hb2 hbX HT1 H1
  go_upto_region 3 with (fail)
  rw [← hX]
  clear hX
  go_wp2_with fail
  refine (lc_any X2 HT2.out).mono ?_
  rintro e w3 ⟨hb3, m3, t3, ad3, n3, cap3, b3, k3, rfl⟩
  obtain ⟨X3, hX⟩ : ∃ X, X = w3.alloc (.cells #[S m3, S t3, .slice ad3 n3 cap3, S b3] 24) := ⟨_, rfl⟩
  have hbX : Below w3.heap.size w3 X3 := by rw [hX]; exact (Below.refl _ w3).alloc (Nat.le_refl _) _
  have H3 := Lib.hid (blk_under (blk_under H2.out hb3) hbX)
  have HB3 := Lib.hid ((HB2.out.trans (hb3.mono HB2.out.size)).trans (hbX.mono (by have := HB2.out.size; have := hb3.size; omega)))
  have HT3 := Lib.hid ((HT2.out.under hb3).under hbX)
  clear hb3 hbX HT2 H2
  go_upto_region 4 with (fail)
  rw [← hX]
  clear hX
  go_wp2_with fail
  refine (resp_404 X3 HT3.out).mono ?_
  rintro e w4 ⟨rfl, hb4⟩
  have H4 := Lib.hid (blk_under H3.out hb4)
  have HB4 := Lib.hid (HB3.out.trans (hb4.mono HB3.out.size))
  clear hb4 H3
  obtain ⟨c0, c1, c2, c3⟩ := box4 H4.out
  have hl4 := blk_lt H4.out
  go_wp2
  go_ret
  exact ⟨rfl, HB4.out⟩
end Go.Proofs.YtjkinjfbjbehjaaGreatDoor

/- HTTP: WHAT IS WRITTEN, READ (mathematics). -/
namespace Go.Proofs.YtjkinjfbjbehjaaGreatDoor
set_option linter.unusedVariables false
set_option linter.unusedSimpArgs false
set_option maxRecDepth 100000
namespace H
theorem idx_at (t r : T) (h : (10 : UInt8) ∉ t) : Lib.indexByte (t ++ 13 :: 10 :: r) 10 = ((t.length + 1 : Nat) : Int) := by
  induction t with
  | nil => rfl
  | cons b t ih =>
    have hb : ¬ b = 10 := fun e => h (by simp [e])
    have := ih (fun e => h (by simp [e]))
    simp only [List.cons_append, Lib.indexByte, beq_iff_eq, hb, if_false, this, List.length_cons]
    rw [if_neg (by omega)]
    omega
theorem line_crlf (t r : T) (h : (10 : UInt8) ∉ t) (hl : t.length ≤ 4096) : line (t ++ 13 :: 10 :: r) = .ok (t, r) := by
  have e1 : (t ++ 13 :: 10 :: r).take 4098 = t ++ 13 :: 10 :: (r.take (4096 - t.length)) := by
    rw [List.take_append]
    rw [List.take_of_length_le (by omega), show 4098 - t.length = (4096 - t.length) + 1 + 1 from by omega]
    simp [List.take_succ_cons]
  unfold line
  simp only [e1, idx_at t _ h]
  rw [if_neg (by omega), if_neg (by omega)]
  have e2 : (t ++ 13 :: 10 :: r).take (((t.length + 1 : Nat) : Int).toNat + 1) = t ++ [13, 10] := by
    rw [show (((t.length + 1 : Nat) : Int).toNat + 1) = t.length + 2 from by omega, List.take_append, List.take_of_length_le (by omega)]
    simp
  have e3 : (t ++ 13 :: 10 :: r).drop (((t.length + 1 : Nat) : Int).toNat + 1) = r := by
    rw [show (((t.length + 1 : Nat) : Int).toNat + 1) = t.length + 2 from by omega, List.drop_append, List.drop_of_length_le (by omega)]
    simp
  have hs : Lib.hasSuffix (t ++ [13, 10]) [13, 10] = true := by
    unfold Lib.hasSuffix
    exact List.isSuffixOf_iff_suffix.2 ⟨t, rfl⟩
  rw [e2, e3, if_pos hs]
  unfold Lib.trimSuffix
  rw [if_pos hs]
  simp
/- digits -/
theorem parse_app (M : Nat) : ∀ (l : T) (acc v d : Nat) (c : UInt8), Lib.parseUintM M acc l = .ok v → c.toNat = 48 + d → d < 10 → v < 1844674407370955162 → v * 10 + d ≤ M → Lib.parseUintM M acc (l ++ [c]) = .ok (v * 10 + d)
  | [], acc, v, d, c, h, hc, hd, hv, hM => by
    simp only [Lib.parseUintM, Lib.NumEnd.ok.injEq] at h
    subst h
    simp only [List.nil_append, Lib.parseUintM]
    rw [if_pos (by omega), if_neg (by omega), if_neg (by omega), show acc * 10 + (c.toNat - 48) = acc * 10 + d from by omega]
  | b :: t, acc, v, d, c, h, hc, hd, hv, hM => by
    simp only [List.cons_append, Lib.parseUintM] at h ⊢
    split at h
    · rename_i h1
      rw [if_pos h1]
      split at h
      · cases h
      · rename_i h2
        rw [if_neg h2]
        split at h
        · cases h
        · rename_i h3
          rw [if_neg h3]
          exact parse_app M t _ v d c h hc hd hv hM
    · cases h
theorem dig_nat (d : Nat) (h : d < 10) : (UInt8.ofNat (48 + d)).toNat = 48 + d := by rw [UInt8.toNat_ofNat']; omega
theorem dec_all : ∀ (u : Nat), u ≤ 65536 → Lib.parseUintM 18446744073709551615 0 (Lib.decDigits u) = .ok u ∧ (∀ b ∈ Lib.decDigits u, 48 ≤ b.toNat ∧ b.toNat ≤ 57) ∧ Lib.decDigits u ≠ [] := by
  intro u
  induction u using Nat.strongRecOn with
  | ind u ih =>
    intro hu
    by_cases h : u < 10
    · rw [Lib.decDigits, dif_pos h]
      refine ⟨?_, ?_, by simp⟩
      · simp only [Lib.parseUintM, dig_nat u h]
        rw [if_pos (by omega), if_neg (by omega), if_neg (by omega)]
        congr 1; omega
      · intro b hb
        simp only [List.mem_singleton] at hb
        subst hb
        rw [dig_nat u h]; omega
    · rw [Lib.decDigits, dif_neg h]
      obtain ⟨h1, h2, h3⟩ := ih (u / 10) (by omega) (by omega)
      refine ⟨?_, ?_, by simp⟩
      · rw [parse_app _ _ _ _ (u % 10) _ h1 (dig_nat _ (by omega)) (by omega) (by omega) (by omega)]
        congr 1; omega
      · intro b hb
        simp only [List.mem_append, List.mem_singleton] at hb
        rcases hb with hb | hb
        · exact h2 b hb
        · subst hb; rw [dig_nat _ (by omega)]; omega
theorem nd_le : ∀ (k u : Nat), u < 10 ^ (k + 1) → Lib.nDigits u ≤ k + 1
  | 0, u, h => by rw [Lib.nDigits_small (by simpa using h)]; omega
  | k + 1, u, h => by
    by_cases h1 : u < 10
    · rw [Lib.nDigits_small h1]; omega
    · rw [Lib.nDigits_big h1]
      have := nd_le k (u / 10) (by rw [Nat.pow_succ] at h; omega)
      omega
theorem itoa_dec (n : Nat) : Lib.itoa (n : Int) = Lib.decDigits n := Lib.itoa_nonneg n
theorem dec_len (u : Nat) (h : u ≤ 65536) : (Lib.decDigits u).length ≤ 9 := by
  rw [Lib.decDigits_length]
  have := nd_le 4 u (by omega)
  omega
theorem trim_id (D : T) (h : ∀ b ∈ D, 48 ≤ b.toNat ∧ b.toNat ≤ 57) : Lib.trimS D [32, 9] = D := by
  have hn : ∀ b ∈ D, ([32, 9] : T).contains b = false := fun b hb => by
    have := h b hb
    have h1 : ¬ b = 32 := fun e => by rw [e] at this; simp at this
    have h2 : ¬ b = 9 := fun e => by rw [e] at this; simp at this
    simp [h1, h2]
  have key : ∀ l : T, (∀ b ∈ l, ([32, 9] : T).contains b = false) → l.dropWhile (([32, 9] : T).contains ·) = l := fun l hl => by
    cases l with
    | nil => rfl
    | cons b t => rw [List.dropWhile_cons, if_neg (by rw [hl b (by simp)]; decide)]
  unfold Lib.trimS Lib.trimLeftS Lib.trimRightS
  rw [key D.reverse (fun b hb => hn b (List.mem_reverse.1 hb)), List.reverse_reverse, key D hn]
theorem trim_sp (D : T) (h : ∀ b ∈ D, 48 ≤ b.toNat ∧ b.toNat ≤ 57) (hne : D ≠ []) : Lib.trimS (32 :: D) [32, 9] = D := by
  have hn : ∀ b ∈ D, ([32, 9] : T).contains b = false := fun b hb => by
    have := h b hb
    have h1 : ¬ b = 32 := fun e => by rw [e] at this; simp at this
    have h2 : ¬ b = 9 := fun e => by rw [e] at this; simp at this
    simp [h1, h2]
  have key : ∀ l : T, (∀ b, l.head? = some b → ([32, 9] : T).contains b = false) → l.dropWhile (([32, 9] : T).contains ·) = l := fun l hl => by
    cases l with
    | nil => rfl
    | cons b t => rw [List.dropWhile_cons, if_neg (by rw [hl b rfl]; decide)]
  unfold Lib.trimS Lib.trimLeftS Lib.trimRightS
  rw [List.reverse_cons]
  have hr : D.reverse ≠ [] := by simpa using hne
  obtain ⟨c, t, hc⟩ : ∃ c t, D.reverse = c :: t := by
    cases h : D.reverse with
    | nil => exact absurd h hr
    | cons c t => exact ⟨c, t, rfl⟩
  have hcm : c ∈ D := List.mem_reverse.1 (by rw [hc]; simp)
  rw [key (D.reverse ++ [32]) (fun b hb => by rw [hc] at hb; simp at hb; subst hb; exact hn c hcm)]
  rw [List.reverse_append, List.reverse_reverse]
  show List.dropWhile _ (32 :: D) = D
  rw [List.dropWhile_cons, if_pos (by decide)]
  exact key D (fun b hb => hn b (List.mem_of_mem_head? hb))
/- a message without heads -/
theorem wlen_no (body : T) (h : body.length ≤ 65536) : (10 : UInt8) ∉ wlen body ∧ (wlen body).length ≤ 4096 ∧ wlen body ≠ [] := by
  obtain ⟨_, h2, _⟩ := dec_all body.length h
  have h3 := dec_len body.length h
  unfold wlen
  rw [itoa_dec]
  refine ⟨fun hm => ?_, ?_, by simp [lengthN]⟩
  · rw [List.append_assoc, List.mem_append] at hm
    rcases hm with hm | hm
    · exact absurd hm (by decide)
    · rw [List.mem_append] at hm
      rcases hm with hm | hm
      · exact absurd hm (by decide)
      · have := h2 10 hm; simp at this
  · have h14 : lengthN.length = 14 := rfl
    simp only [List.length_append, h14, List.length_cons, List.length_nil]
    omega
theorem head_len (D : T) (h : ∀ b ∈ D, 48 ≤ b.toNat ∧ b.toNat ≤ 57) (hne : D ≠ []) : head (lengthN ++ [58, 32] ++ D) = .ok ⟨lengthN, D⟩ := by
  have hc : Lib.cut (lengthN ++ [58, 32] ++ D) [58] = (lengthN, 32 :: D, true) := by
    have hi : Lib.index (lengthN ++ [58, 32] ++ D) [58] = 14 := by
      rw [Lib.index_one]
      simp [lengthN, Lib.indexByte]
    unfold Lib.cut
    simp only [hi]
    simp [lengthN]
  unfold head
  simp only [hc, trim_sp D h hne]
  have h1 : isOf lengthN tok = true := by rfl
  have h2 : isValue D = true := by
    unfold isValue isOf
    rw [trim_id D h]
    have h3 : D.isEmpty = false := by cases D with | nil => exact absurd rfl hne | cons => rfl
    have h4 : D.all (fun b => val b.toNat) = true := List.all_eq_true.2 (fun b hb => by
      have := h b hb
      simp only [val, Bool.or_eq_true, Bool.and_eq_true, decide_eq_true_eq]
      exact .inr ⟨by omega, by omega⟩)
    simp [h3, h4]
  rw [h1, h2]
  rfl
theorem heads_len (body r : T) (h : body.length ≤ 65536) : heads (wlen body ++ 13 :: 10 :: 13 :: 10 :: r) = .ok (⟨[], [Lib.itoa (body.length : Int)], []⟩, r) := by
  obtain ⟨h1, h2, h3⟩ := wlen_no body h
  obtain ⟨_, d2, d3⟩ := dec_all body.length h
  unfold heads
  obtain ⟨n, hn⟩ : ∃ n, (wlen body ++ 13 :: 10 :: 13 :: 10 :: r).length + 1 = n + 1 + 1 := ⟨(wlen body ++ 13 :: 10 :: 13 :: 10 :: r).length - 1, by simp only [List.length_append, List.length_cons]; omega⟩
  rw [hn]
  simp only [headsF]
  rw [line_crlf _ _ h1 h2]
  simp only
  rw [if_neg h3]
  have hh : head (wlen body) = .ok ⟨lengthN, Lib.itoa (body.length : Int)⟩ := by
    unfold wlen
    rw [itoa_dec]
    exact head_len _ d2 d3
  rw [hh]
  simp only
  have ha : addHead ⟨[], [], []⟩ ⟨lengthN, Lib.itoa (body.length : Int)⟩ = .ok ⟨[], [Lib.itoa (body.length : Int)], []⟩ := by
    unfold addHead
    rw [if_pos (by rfl)]
    rfl
  rw [ha]
  simp only
  rw [show (13 :: 10 :: r : T) = [] ++ 13 :: 10 :: r from rfl, line_crlf [] r (by simp) (by simp)]
  simp only [if_true]
abbrev firstP : T := [80, 79, 83, 84, 32, 47, 32, 72, 84, 84, 80, 47, 49, 46, 49]
theorem req_post (r : T) : requestLine (firstP ++ 13 :: 10 :: r) = .ok (([80, 79, 83, 84], [47]), r) := by
  unfold requestLine
  rw [line_crlf firstP r (by decide) (by decide)]
  rfl
theorem whole_len (body : T) (h : body.length ≤ 65536) : whole10 (Lib.itoa (body.length : Int)) 9 = .ok body.length := by
  obtain ⟨h1, _, h3⟩ := dec_all body.length h
  have h4 := dec_len body.length h
  rw [itoa_dec]
  unfold whole10 wholeO
  rw [if_pos h4]
  unfold decO Lib.parseUintB
  rw [if_neg h3, show (2 ^ 64 - 1 : Nat) = 18446744073709551615 from rfl, h1]
theorem body_lenR (most : Int) (body : T) (h : body.length ≤ 65536) : H.body most ⟨[], [Lib.itoa (body.length : Int)], []⟩ body = if (body.length : Int) ≤ most then .ok (body, []) else .error 4 := by
  unfold H.body
  simp only [List.length_nil, List.length_cons, List.headD_cons]
  rw [if_neg (by decide), if_pos (by decide), if_pos (by decide), whole_len body h]
  simp only
  unfold part
  by_cases hm : (body.length : Int) ≤ most
  · rw [if_pos hm, if_neg (by simp; exact hm), if_neg (by simp)]
    simp
  · rw [if_neg hm, if_pos (by simpa using hm)]
theorem most_math (body : T) (most : Int) (h : body.length ≤ 65536) : readRequest (wout firstP body) most =
    if okMost most then (if (body.length : Int) ≤ most then (⟨[80, 79, 83, 84], [47], [], body⟩, (wout firstP body).length, 0) else (⟨[], [], [], []⟩, 0, 4)) else (⟨[], [], [], []⟩, 0, 2) := by
  unfold readRequest
  split
  · have hr : reqR most (wout firstP body) = if (body.length : Int) ≤ most then .ok (⟨[80, 79, 83, 84], [47], [], body⟩, []) else .error 4 := by
      unfold reqR wout
      rw [req_post]
      simp only
      rw [heads_len body body h]
      simp only
      rw [body_lenR most body h]
      by_cases hm : (body.length : Int) ≤ most
      · rw [if_pos hm, if_pos hm]
      · rw [if_neg hm, if_neg hm]
    rw [hr]
    by_cases hm : (body.length : Int) ≤ most
    · rw [if_pos hm, if_pos hm]; simp
    · rw [if_neg hm, if_neg hm]
  · rfl
end H
end Go.Proofs.YtjkinjfbjbehjaaGreatDoor

/- HTTP: THE WALK OVER WriteRequest, of a body alone. -/
namespace Go.Proofs.YtjkinjfbjbehjaaGreatDoor
open Go.RowKit
set_option maxRecDepth 100000
set_option linter.unusedVariables false
set_option linter.unusedSimpArgs false

set_option maxHeartbeats 4000000 in
theorem post_any (w : World) (body : H.T) (hb : body.length ≤ 140737488355000) (hT : Tabs w) :
    Calls Tryz.prog 19 #[.agg #[.string ⟨#[80, 79, 83, 84]⟩, .string ⟨#[47]⟩, .slice none 0 0, S body]] w fun e w' => Below w.heap.size w w' ∧ e = .returned (if body.length ≤ 65536 then .tuple #[S (H.wout H.firstP body), .int .i64 0] else .tuple #[S [], .int .i64 13]) := by
  obtain ⟨X, hX⟩ : ∃ X, X = w.alloc (.cells #[.string ⟨#[80, 79, 83, 84]⟩, .string ⟨#[47]⟩, .slice none 0 0, S body] 24) := ⟨_, rfl⟩
  have hbX : Below w.heap.size w X := by rw [hX]; exact (Below.refl _ w).alloc (Nat.le_refl _) _
  have hx : X.heap[w.heap.size]? = some (.cells #[.string ⟨#[80, 79, 83, 84]⟩, .string ⟨#[47]⟩, .slice none 0 0, S body] 24 (0, 0)) := by rw [hX]; exact blk_new w _
  have bx : ∀ W : World, W.heap[w.heap.size]? = some (.cells #[.string ⟨#[80, 79, 83, 84]⟩, .string ⟨#[47]⟩, .slice none 0 0, S body] 24 (0, 0)) → W.cell? ⟨w.heap.size, 0, none⟩ = some (.string ⟨#[80, 79, 83, 84]⟩) ∧ W.cell? ⟨w.heap.size, 1, none⟩ = some (.string ⟨#[47]⟩) ∧ W.cell? ⟨w.heap.size, 2, none⟩ = some (.slice none 0 0) ∧ W.cell? ⟨w.heap.size, 3, none⟩ = some (S body) := fun W h => ⟨cell_of_row W _ 0 _ 24 (0, 0) h, cell_of_row W _ 1 _ 24 (0, 0) h, cell_of_row W _ 2 _ 24 (0, 0) h, cell_of_row W _ 3 _ 24 (0, 0) h⟩
  obtain ⟨c0, c1, c2, c3⟩ := bx X hx
  have hlx := blk_lt hx
  have Bx := Lib.hid bx
  have HT := Lib.hid (hT.under hbX)
  have Hx := Lib.hid hx
  have HbX := Lib.hid hbX
  clear hT hx hbX bx
  have hP : ∀ W, Calls Tryz.prog 42 #[.string ⟨#[80, 79, 83, 84]⟩, .func (.func 43) #[] #[]] W fun e w' => e = .returned (.bool true) ∧ Below W.heap.size W w' := fun W => by
    have := isOf_any W [80, 79, 83, 84] 43 H.tok (fun args w => by kernel_rfl) rune_tok H.tok_hi
    rw [show H.isOf [80, 79, 83, 84] H.tok = true by rfl] at this
    exact this
  have hS : ∀ W, Calls Tryz.prog 42 #[.string ⟨#[47]⟩, .func (.func 44) #[] #[]] W fun e w' => e = .returned (.bool true) ∧ Below W.heap.size W w' := fun W => by
    have := isOf_any W [47] 44 H.tgt (fun args w => by kernel_rfl) rune_tgt H.tgt_hi
    rw [show H.isOf [47] H.tgt = true by rfl] at this
    exact this
  have eA : (⟨#[80, 79, 83, 84]⟩ : ByteArray) ++ ⟨#[32]⟩ = ⟨#[80, 79, 83, 84, 32]⟩ := by rfl
  have eB : (⟨#[80, 79, 83, 84, 32]⟩ : ByteArray) ++ ⟨#[47]⟩ = ⟨#[80, 79, 83, 84, 32, 47]⟩ := by rfl
  have eC : (⟨#[80, 79, 83, 84, 32, 47]⟩ : ByteArray) ++ ⟨#[32]⟩ = ⟨#[80, 79, 83, 84, 32, 47, 32]⟩ := by rfl
  have eD : (⟨#[80, 79, 83, 84, 32, 47, 32]⟩ : ByteArray) ++ ⟨#[72, 84, 84, 80, 47, 49, 46, 49]⟩ = ⟨#[80, 79, 83, 84, 32, 47, 32, 72, 84, 84, 80, 47, 49, 46, 49]⟩ := by rfl
  have hwr : ∀ W, Tabs W → Calls Tryz.prog 45 #[.string ⟨#[80, 79, 83, 84, 32, 47, 32, 72, 84, 84, 80, 47, 49, 46, 49]⟩, .slice none 0 0, S body] W fun e w' => Below W.heap.size W w' ∧ e = .returned (if body.length ≤ 65536 then .tuple #[S (H.wout H.firstP body), .int .i64 0] else .tuple #[S [], .int .i64 13]) := fun W hW => by
    refine (write_nil W H.firstP body (by decide) hb hW).mono fun e w' h => ?_
    refine ⟨h.1, h.2.trans ?_⟩
    by_cases h6 : body.length ≤ 65536
    · rw [if_pos ⟨by decide, h6⟩, if_pos h6]
    · rw [if_neg (fun hh => h6 hh.2), if_neg h6]
  obtain ⟨za, zk, hZ⟩ : ∃ a k, (if body.length ≤ 65536 then Value.tuple #[S (H.wout H.firstP body), .int .i64 0] else .tuple #[S [], .int .i64 13]) = .tuple #[S a, .int .i64 k] := by
    by_cases h6 : body.length ≤ 65536
    · rw [if_pos h6]; exact ⟨_, _, rfl⟩
    · rw [if_neg h6]; exact ⟨_, _, rfl⟩
  simp only [hZ] at hwr ⊢
  clear hZ
  have HW := Lib.hid hwr
  have HP := Lib.hid hP
  have HS := Lib.hid hS
  clear hwr hP hS
  go_enter Tryz.func19, Tryz.ntmps19
  go_upto_region 1 with (fail)
  rw [← hX]
  clear hX
  go_wp2_with (go_at_call 42; first | (with_reducible refine (HP.out _).mono ?_; rintro e w1 ⟨rfl, hb1⟩; have Hx1 := Lib.hid (blk_under Hx.out hb1); have HT1 := Lib.hid (HT.out.under hb1); have Hb1 := Lib.hid (HbX.out.trans (hb1.mono HbX.out.size)); obtain ⟨d0, d1, d2, d3⟩ := Bx.out _ Hx1.out; have hl1 := blk_lt Hx1.out; clear hb1) | (with_reducible refine (HS.out _).mono ?_; rintro e w2 ⟨rfl, hb2⟩; have Hx2 := Lib.hid (blk_under Hx1.out hb2); have HT2 := Lib.hid (HT1.out.under hb2); have Hb2 := Lib.hid (Hb1.out.trans (hb2.mono Hb1.out.size)); obtain ⟨f0, f1, f2, f3⟩ := Bx.out _ Hx2.out; have hl2 := blk_lt Hx2.out; clear hb2))
  with_reducible refine (HW.out _ HT2.out).mono ?_
  rintro e w3 ⟨hb3, rfl⟩
  have Hb3 := Lib.hid (Hb2.out.trans (hb3.mono Hb2.out.size))
  clear hb3
  go_wp2
  go_ret2
  exact ⟨Hb3.out, rfl⟩
end Go.Proofs.YtjkinjfbjbehjaaGreatDoor

/- HTTP: THE WALK OVER HttpMost. -/
namespace Go.Proofs.YtjkinjfbjbehjaaGreatDoor
open Go.RowKit
set_option maxRecDepth 100000
set_option linter.unusedVariables false
set_option linter.unusedSimpArgs false

theorem same_none (w : World) (ad : Option Addr) (cap : Nat) : Calls Tryz.prog 24 #[.slice ad 0 cap, .slice none 0 0] w fun e w' => e = .returned (.bool true) ∧ Below w.heap.size w w' := by
  go_enter Tryz.func24, Tryz.ntmps24
  go_wp2
  go_loopw [13] (fun u wr => u = .int .i64 0 ∧ wr = w) (fun _ _ => 0)
  case atStart => exact ⟨rfl, rfl⟩
  case round =>
    obtain ⟨rfl, rfl⟩ := hrel
    go_wp2
    go_ret
    exact ⟨rfl, Below.refl _ _⟩
theorem most_long (w : World) (body : H.T) (most : Int) (hb : body.length ≤ 140737488355000) (h6 : ¬ body.length ≤ 65536) (hT : Tabs w) :
    Calls Tryz.prog 9 #[S body, .int .i64 most] w fun e w' => e = .returned (.bool true) ∧ Below w.heap.size w w' := by
  obtain ⟨y, hy⟩ : ∃ y : Int, ((body.length : Nat) : Int) = y := ⟨_, rfl⟩
  have hy6 : (65536 : Int) < y := by omega
  have hp := fun w hT => post_any w body hb hT
  simp only [if_neg h6] at hp
  have HT := Lib.hid hT
  have HP := Lib.hid hp
  clear hp hT h6
  go_enter Tryz.func9, Tryz.ntmps9
  go_wp2_with fail
  refine (lives_any w HT.out).mono ?_
  rintro e w1 ⟨rfl, hb1⟩
  have HT1 := Lib.hid (HT.out.under hb1)
  have HB1 := Lib.hid hb1
  clear hb1
  go_wp2_with fail
  with_reducible refine (HP.out _ HT1.out).mono ?_
  rintro e w2 ⟨hb2, rfl⟩
  have HB2 := Lib.hid (HB1.out.trans (hb2.mono HB1.out.size))
  clear hb2
  go_wp2
  go_ret
  exact ⟨rfl, HB2.out⟩
theorem wout_len (body : H.T) (h : body.length ≤ 65536) : (H.wout H.firstP body).length ≤ 100000 := by
  have h3 := itoa_le body.length h
  have h14 : H.lengthN.length = 14 := rfl
  unfold H.wout H.wlen
  simp only [List.length_append, List.length_cons, List.length_nil, h14]
  omega
theorem read_case (w : World) (body : H.T) (most : Int) (hm : -9223372036854775808 ≤ most ∧ most ≤ 9223372036854775807) (h6 : body.length ≤ 65536) :
    ∃ (m t b : H.T) (n c : Int), (∀ w, Tabs w → Calls Tryz.prog 10 #[S (H.wout H.firstP body), .int .i64 most] w fun e w' => Below w.heap.size w w' ∧ ∃ ad cap, e = .returned (.tuple #[.agg #[S m, S t, .slice ad 0 cap, S b], .int .i64 n, .int .i64 c])) ∧
      ((c = 2 ∧ (most < 0 ∨ (¬ most < 0 ∧ 65536 < most))) ∨ (c = 4 ∧ n = 0 ∧ ¬ most < 0 ∧ ¬ 65536 < most ∧ most < (body.length : Int)) ∨ (c = 0 ∧ n = ((H.wout H.firstP body).length : Int) ∧ b = body ∧ ¬ most < 0 ∧ ¬ 65536 < most ∧ ¬ most < (body.length : Int))) := by
  have hM := H.most_math body most h6
  have hl := wout_len body h6
  have key : ∀ (q : H.Rq) (n : Nat) (c : Int), q.hs = [] → H.readRequest (H.wout H.firstP body) most = (q, n, c) → ∀ w, Tabs w → Calls Tryz.prog 10 #[S (H.wout H.firstP body), .int .i64 most] w fun e w' => Below w.heap.size w w' ∧ ∃ ad cap, e = .returned (.tuple #[.agg #[S q.method, S q.target, .slice ad 0 cap, S q.body], .int .i64 (n : Int), .int .i64 c]) := fun q n c hq h w hT => by
    refine (readRequest_any w _ most hm (by omega) hT).mono fun e w' hh => ?_
    rw [h] at hh
    obtain ⟨hb, x, he, v, rfl, hv⟩ := hh
    rw [hq] at hv
    obtain ⟨ad, cap, rfl⟩ := row_form hv
    exact ⟨hb, ad, cap, he⟩
  by_cases ho : H.okMost most
  · rw [if_pos ho] at hM
    by_cases hle : (body.length : Int) ≤ most
    · rw [if_pos hle] at hM
      exact ⟨_, _, _, _, _, key _ _ _ rfl hM, .inr (.inr ⟨rfl, rfl, rfl, by simp [H.okMost] at ho; omega, by simp [H.okMost] at ho; omega, by omega⟩)⟩
    · rw [if_neg hle] at hM
      exact ⟨_, _, _, _, _, key _ _ _ rfl hM, .inr (.inl ⟨rfl, rfl, by simp [H.okMost] at ho; omega, by simp [H.okMost] at ho; omega, by omega⟩)⟩
  · rw [if_neg ho] at hM
    exact ⟨_, _, _, _, _, key _ _ _ rfl hM, .inl ⟨rfl, by simp [H.okMost] at ho; omega⟩⟩
set_option maxHeartbeats 1000000 in
theorem most_short (w : World) (body : H.T) (most : Int) (hm : -9223372036854775808 ≤ most ∧ most ≤ 9223372036854775807) (h6 : body.length ≤ 65536) (hT : Tabs w) :
    Calls Tryz.prog 9 #[S body, .int .i64 most] w fun e w' => e = .returned (.bool true) ∧ Below w.heap.size w w' := by
  obtain ⟨m, t, b, n, c, hr, hc⟩ := read_case w body most hm h6
  have hp := fun w hT => post_any w body (by omega) hT
  simp only [if_pos h6] at hp
  obtain ⟨y, hy⟩ : ∃ y : Int, ((body.length : Nat) : Int) = y := ⟨_, rfl⟩
  obtain ⟨z, hz⟩ : ∃ z : Int, (((H.wout H.firstP body).length : Nat) : Int) = z := ⟨_, rfl⟩
  obtain ⟨o, ho⟩ : ∃ o, H.wout H.firstP body = o := ⟨_, rfl⟩
  rw [hz, hy] at hc
  rw [ho] at hr hp hz
  have HT := Lib.hid hT
  have HP := Lib.hid hp
  have HR := Lib.hid hr
  have HC := Lib.hid hc
  clear hp hT h6 hr hc ho hm
  go_enter Tryz.func9, Tryz.ntmps9
  go_wp2_with fail
  refine (lives_any w HT.out).mono ?_
  rintro e w1 ⟨rfl, hb1⟩
  have HT1 := Lib.hid (HT.out.under hb1)
  have HB1 := Lib.hid hb1
  clear hb1 HT
  go_wp2_with fail
  with_reducible refine (HP.out _ HT1.out).mono ?_
  rintro e w2 ⟨hb2, rfl⟩
  have HT2 := Lib.hid (HT1.out.under hb2)
  have HB2 := Lib.hid (HB1.out.trans (hb2.mono HB1.out.size))
  clear hb2 HT1
  go_wp2_with fail
  with_reducible refine (HR.out _ HT2.out).mono ?_
  rintro e w3 ⟨hb3, ad, cap, rfl⟩
  obtain ⟨X, hX⟩ : ∃ X, X = w3.alloc (.cells #[S m, S t, .slice ad 0 cap, S b] 24) := ⟨_, rfl⟩
  have hbX : Below w3.heap.size w3 X := by rw [hX]; exact (Below.refl _ w3).alloc (Nat.le_refl _) _
  have hx : X.heap[w3.heap.size]? = some (.cells #[S m, S t, .slice ad 0 cap, S b] 24 (0, 0)) := by rw [hX]; exact blk_new w3 _
  have hb23 := HB2.out.trans (hb3.mono HB2.out.size)
  have HB3 := Lib.hid (hb23.trans (hbX.mono hb23.size))
  obtain ⟨c0, c1, c2, c3⟩ := box4 hx
  have hlx := blk_lt hx
  clear hb3 hbX hb23 HT2 hx
  go_upto_region 7 with (fail)
  rw [← hX]
  clear hX HP HR
  have hc := HC.out
  rcases hc with ⟨rfl, h1 | ⟨h1, h2⟩⟩ | ⟨rfl, rfl, h1, h2, h3⟩ | ⟨rfl, rfl, rfl, h1, h2, h3⟩
  · go_wp2
    go_ret
    exact ⟨rfl, HB3.out⟩
  · go_wp2
    go_ret
    exact ⟨rfl, HB3.out⟩
  · go_wp2
    go_ret
    exact ⟨rfl, HB3.out⟩
  · go_wp2_with (go_at_call 24; refine (same_none _ _ _).mono ?_; rintro e w4 ⟨rfl, hb4⟩)
    go_ret
    exact ⟨rfl, HB3.out.trans (hb4.mono HB3.out.size)⟩
theorem most_any (w : World) (s : ByteArray) (most : Int) (hm : -9223372036854775808 ≤ most ∧ most ≤ 9223372036854775807) (hs : s.size ≤ 140737488355000) (hT : Tabs w) :
    Calls Tryz.prog 9 #[.string s, .int .i64 most] w fun e w' => e = .returned (.bool true) ∧ Below w.heap.size w w' := by
  obtain ⟨body, rfl⟩ : ∃ body : H.T, s = ⟨body.toArray⟩ := ⟨s.data.toList, (S_data s).symm⟩
  rw [S_size] at hs
  by_cases h6 : body.length ≤ 65536
  · exact most_short w body most hm h6 hT
  · exact most_long w body most hs h6 hT
end Go.Proofs.YtjkinjfbjbehjaaGreatDoor
