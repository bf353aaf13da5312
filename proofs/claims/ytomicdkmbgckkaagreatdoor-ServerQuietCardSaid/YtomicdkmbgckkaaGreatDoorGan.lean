/- HTTP: THE WALK OVER write, WITHOUT HEADS. -/
import Derived.Test.YtomicdkmbgckkaaGreatDoorGam
import Derived.Lib.ItoaLen
import Derived.Lib.AppendIntMem
namespace Go.Proofs.YtomicdkmbgckkaaGreatDoor
open Go.RowKit
set_option maxRecDepth 100000
set_option linter.unusedVariables false
set_option linter.unusedSimpArgs false

theorem S_app (a b : H.T) : (⟨a.toArray⟩ : ByteArray) ++ ⟨b.toArray⟩ = ⟨(a ++ b).toArray⟩ := by
  apply ByteArray.ext
  simp [ByteArray.data_append]
theorem idx_nil (w : World) (f : Value) : Calls Tryz.prog 41 #[.slice none 0 0, f] w fun e w' => e = .returned (.int .i64 (-1)) ∧ Below w.heap.size w w' := by
  go_enter Tryz.func41, Tryz.ntmps41
  go_wp2
  go_loopw [8] (fun u wr => u = .int .i64 0 ∧ wr = w) (fun _ _ => 0)
  case atStart => exact ⟨rfl, rfl⟩
  case round =>
    obtain ⟨rfl, rfl⟩ := hrel
    go_wp2
    go_ret
    exact ⟨rfl, Below.refl _ _⟩
theorem has_nil (w : World) (f : Value) : Calls Tryz.prog 70 #[.slice none 0 0, f] w fun e w' => e = .returned (.bool false) ∧ Below w.heap.size w w' := by
  have hi := idx_nil w f
  go_enter Tryz.func70, Tryz.ntmps70
  go_wp2_with (refine hi.mono ?_; rintro e w' ⟨rfl, hb⟩)
  go_ret
  exact ⟨rfl, hb⟩
theorem headLine_any (w : World) (n v : H.T) (hn : n.length + v.length ≤ 1000000) : Calls Tryz.prog 72 #[.agg #[S n, S v]] w fun e w' => e = .returned (S (n ++ [58, 32] ++ v)) ∧ Below w.heap.size w w' := by
  obtain ⟨X, hX⟩ : ∃ X, X = w.alloc (.cells #[S n, S v] 77) := ⟨_, rfl⟩
  have hx : X.heap[w.heap.size]? = some (.cells #[S n, S v] 77 (0, 0)) := by rw [hX]; exact blk_new w _
  have hb : Below w.heap.size w X := by rw [hX]; exact (Below.refl _ w).alloc (Nat.le_refl _) _
  obtain ⟨c0, c1⟩ := box2 hx
  have hlt := blk_lt hx
  have e1 : (⟨n.toArray⟩ : ByteArray) ++ ⟨#[58, 32]⟩ = ⟨(n ++ [58, 32]).toArray⟩ := S_app n [58, 32]
  have e2 := S_app (n ++ [58, 32]) v
  go_enter Tryz.func72, Tryz.ntmps72
  go_upto_region 1 with (fail)
  rw [← hX]
  clear hX hx
  go_wp2
  go_ret
  exact ⟨by show Ending.returned (Value.string ⟨(n ++ 58 :: 32 :: v).toArray⟩) = _; simp, hb⟩
/-- what is written, without heads -/
def H.wlen (body : H.T) : H.T := H.lengthN ++ [58, 32] ++ Lib.itoa (body.length : Int)
def H.wout (first body : H.T) : H.T := first ++ 13 :: 10 :: (H.wlen body ++ 13 :: 10 :: 13 :: 10 :: body)
theorem isB_under {B b : Nat} {l : H.T} {w w' : World} (h : IsB B b l w) (hb : Below w.heap.size w w') : IsB B b l w' := by
  have key : ∀ p, Lib.BuilderAt 111 5 B b p (Lib.byteCells l) w → Lib.BuilderAt 111 5 B b p (Lib.byteCells l) w' := fun p ⟨hB, v, hb2, hown, hne⟩ =>
    ⟨hB, v, blk_under hb2 hb, row_below hown hb, hne⟩
  exact h.elim (fun x => .inl (key _ x)) (fun x => .inr (key _ x))
theorem itoa_le (n : Nat) (h : n ≤ 65536) : (Lib.itoa (n : Int)).length ≤ 100 := Nat.le_trans (Lib.itoa_length_le _ (by omega) (by omega)) (by decide)
set_option maxHeartbeats 4000000 in
theorem write_nil (w : World) (first body : H.T) (hf : first.length ≤ 140737488355000) (hb : body.length ≤ 140737488355000) (hT : Tabs w) :
    Calls Tryz.prog 45 #[S first, .slice none 0 0, S body] w fun e w' => Below w.heap.size w w' ∧ e = .returned (if first.length ≤ 4096 ∧ body.length ≤ 65536 then .tuple #[S (H.wout first body), .int .i64 0] else .tuple #[S [], .int .i64 13]) := by
  obtain ⟨z, hz⟩ : ∃ z : Int, ((first.length : Nat) : Int) = z := ⟨_, rfl⟩
  obtain ⟨y, hy⟩ : ∃ y : Int, ((body.length : Nat) : Int) = y := ⟨_, rfl⟩
  by_cases h1 : first.length ≤ 4096
  · have h1' : ¬ (4096 : Int) < z := by omega
    by_cases h2 : body.length ≤ 65536
    · have h2' : ¬ (65536 : Int) < y := by omega
      have hn0 := has_nil w (.func (.func 71) #[] #[])
      rw [if_pos ⟨h1, h2⟩]
      have e1 : (⟨first.toArray⟩ : ByteArray) ++ ⟨#[13, 10]⟩ = ⟨(first ++ [13, 10]).toArray⟩ := S_app first [13, 10]
      have e2 : (⟨(H.wlen body).toArray⟩ : ByteArray) ++ ⟨#[13, 10]⟩ = ⟨(H.wlen body ++ [13, 10]).toArray⟩ := S_app _ [13, 10]
      have e3 : (⟨#[13, 10]⟩ : ByteArray) ++ ⟨body.toArray⟩ = ⟨(13 :: 10 :: body).toArray⟩ := S_app [13, 10] body
      have hil := itoa_le body.length h2
      have hwl : (H.wlen body).length ≤ 200 := by
        have h14 : H.lengthN.length = 14 := rfl
        unfold H.wlen
        simp only [List.length_append, h14, List.length_cons, List.length_nil]
        omega
      have HT := Lib.hid hT
      have h8 := hT.sz
      have Hs := Lib.hid (And.intro h1 h2)
      have Hwl := Lib.hid (And.intro hwl hil)
      clear hT hil
      go_enter Tryz.func45, Tryz.ntmps45
      go_upto_region 3 with (go_at_call 70; refine hn0.mono ?_; rintro e w1 ⟨rfl, hb1⟩)
      have HT1 := Lib.hid (HT.out.under hb1)
      obtain ⟨X, hX⟩ : ∃ X, X = w1.alloc (.cells #[.pointer none, .slice none 0 0] 111) := ⟨_, rfl⟩
      have hbX : Below w1.heap.size w1 X := by rw [hX]; exact (Below.refl _ w1).alloc (Nat.le_refl _) _
      have HB := Lib.hid (show IsB w1.heap.size w1.heap.size [] X from by rw [hX]; exact Lib.fresh_isBuilder 111 5 w1)
      have HbX := Lib.hid (hb1.trans (hbX.mono hb1.size))
      have HTX := Lib.hid (HT1.out.under hbX)
      have hXs : w1.heap.size ≤ X.heap.size := hbX.size
      have hws := hb1.size
      clear hb1 hbX HT1 hn0 HT
      go_upto_region 4 with (fail)
      rw [← hX]
      clear hX
      go_wp2_with fail
      refine (write_str w1.heap.size w1.heap.size [] (first ++ [13, 10]) X HB.out (by have := Hs.out.1; simp only [List.length_nil, List.length_append, List.length_cons]; omega) hXs).mono ?_
      rintro e w2 ⟨rfl, hB2, hb2⟩
      have HB2 := Lib.hid hB2
      have HbB := Lib.hid hb2
      clear hB2 hb2 HB
      go_wp2
      go_loopw [33] (fun u wr => u = .int .i64 0 ∧ wr = w2) (fun _ _ => 0)
      case atStart => exact ⟨rfl, rfl⟩
      case round =>
        obtain ⟨rfl, rfl⟩ := hrel
        have hTw := HTX.out.keep (HbB.out.mono (by omega))
        have hit := Tryz.strconv_Itoa y (by omega) (by omega) wr hTw.pow
        have HbW := Lib.hid (HbX.out.trans (HbB.out.mono hws))
        have hrs := HbB.out.size
        have HTw := Lib.hid hTw
        clear hTw
        go_wp2_with fail
        refine hit.mono ?_
        rintro e w4 ⟨rfl, kk, os, hw4⟩
        have hb4 : Below wr.heap.size wr w4 := by rw [hw4]; exact Lib.below_grow _ _ (Nat.le_refl _) kk os
        have hBb4 : IsB w1.heap.size w1.heap.size (first ++ [13, 10]) w4 := by
          have := HB2.out
          simp only [List.nil_append] at this
          exact isB_under this hb4
        have Hb4 := Lib.hid hb4
        have HBb4 := Lib.hid hBb4
        clear hw4 hb4 hBb4 hit HB2
        have hl4 := headLine_any w4 H.lengthN (Lib.itoa y) (by have := Hwl.out.2; rw [hy] at this; have h14 : H.lengthN.length = 14 := rfl; omega)
        have hwy : H.lengthN ++ [58, 32] ++ Lib.itoa y = H.wlen body := by unfold H.wlen; rw [hy]
        rw [hwy] at hl4
        go_wp2_with fail
        refine hl4.mono ?_
        rintro e w5 ⟨rfl, hb5⟩
        have hs4 := Hb4.out.size
        have HBb5 := Lib.hid (isB_under HBb4.out hb5)
        have Hb5 := Lib.hid hb5
        clear hb5 hl4 HBb4
        have hs5 := Hb5.out.size
        go_wp2_with fail
        refine (write_str w1.heap.size w1.heap.size _ (H.wlen body ++ [13, 10]) w5 HBb5.out (by have := Hs.out.1; have := Hwl.out.1; simp only [List.length_append, List.length_cons, List.length_nil]; omega) (by omega)).mono ?_
        rintro e w6 ⟨rfl, hB6, hb6⟩
        have HB6 := Lib.hid hB6
        have Hb6 := Lib.hid hb6
        have hs6 := hb6.size
        clear hB6 hb6 HBb5
        go_wp2_with fail
        refine (write_str w1.heap.size w1.heap.size _ (13 :: 10 :: body) w6 HB6.out (by have := Hs.out; have := Hwl.out.1; simp only [List.length_append, List.length_cons, List.length_nil]; omega) (by omega)).mono ?_
        rintro e w7 ⟨rfl, hB7, hb7⟩
        have HB7 := Lib.hid hB7
        have Hb7 := Lib.hid hb7
        have hs7 := hb7.size
        clear hB7 hb7 HB6
        go_wp2_with fail
        refine (Tryz.Builder_String_any w1.heap.size w1.heap.size _ w7 HB7.out (by omega)).mono ?_
        rintro e w8 ⟨rfl, hb8⟩
        have Hb8 := Lib.hid hb8
        clear hb8
        go_wp2
        go_ret2
        have b1 : Below w.heap.size w w4 := HbW.out.trans (Hb4.out.mono (by omega))
        have b2 := b1.trans (Hb5.out.mono (by omega))
        have b3 := ((b2.trans (Hb6.out.mono hws)).trans (Hb7.out.mono hws)).trans (Hb8.out.mono hws)
        exact ⟨b3, rfl⟩
    · have h2' : (65536 : Int) < y := by omega
      rw [if_neg (fun h => h2 h.2)]
      go_enter Tryz.func45, Tryz.ntmps45
      go_wp2
      go_ret2
      exact ⟨Below.refl _ _, rfl⟩
  · have h1' : (4096 : Int) < z := by omega
    rw [if_neg (fun h => h1 h.1)]
    go_enter Tryz.func45, Tryz.ntmps45
    go_wp2
    go_ret2
    exact ⟨Below.refl _ _, rfl⟩
end Go.Proofs.YtomicdkmbgckkaaGreatDoor

/- HTTP: THE WALKS OVER reason, WriteResponse (of 404), lives. -/
namespace Go.Proofs.YtomicdkmbgckkaaGreatDoor
open Go.RowKit
set_option maxRecDepth 100000
set_option linter.unusedVariables false
set_option linter.unusedSimpArgs false

theorem rq_a : (H.readRequest [80, 79, 83, 84, 32, 47, 118, 49, 47, 108, 111, 103, 115, 32, 72, 84, 84, 80, 47, 49, 46, 49, 13, 10, 67, 111, 110, 116, 101, 110, 116, 45, 76, 101, 110, 103, 116, 104, 58, 32, 50, 13, 10, 13, 10, 104, 105] 10) = (⟨[80, 79, 83, 84], [47, 118, 49, 47, 108, 111, 103, 115], [], [104, 105]⟩, 47, 0) := by rfl
theorem rq_b : (H.readRequest [80, 79, 83, 84, 32, 47, 118, 49, 47, 108, 111, 103, 115, 32, 72, 84, 84, 80, 47, 49, 46, 49, 13, 10, 67, 111, 110, 116, 101, 110, 116, 45, 76, 101, 110, 103, 116, 104, 58, 32, 50, 13, 10, 13, 10, 104] 10).2.2 = 14 := by rfl
theorem rq_c : (H.readRequest [71, 69, 84, 32, 47, 32, 72, 84, 84, 80, 47, 49, 46, 48, 13, 10, 13, 10] 10).2.2 = 13 := by rfl
theorem it_404 : Lib.itoa 404 = [52, 48, 52] := by
  show Lib.decDigits 404 = _
  rw [Lib.decDigits, dif_neg (by decide), Lib.decDigits_two (by decide) (by decide)]
  rfl
theorem it_0 : Lib.itoa 0 = [48] := by
  show Lib.decDigits 0 = _
  rw [Lib.decDigits_one (by decide)]
  rfl
abbrev first404 : H.T := [72, 84, 84, 80, 47, 49, 46, 49, 32, 52, 48, 52, 32, 78, 111, 116, 32, 70, 111, 117, 110, 100]
abbrev out404 : H.T := [72, 84, 84, 80, 47, 49, 46, 49, 32, 52, 48, 52, 32, 78, 111, 116, 32, 70, 111, 117, 110, 100, 13, 10, 67, 111, 110, 116, 101, 110, 116, 45, 76, 101, 110, 103, 116, 104, 58, 32, 48, 13, 10, 13, 10]
theorem wr_404 : H.wout first404 [] = out404 := by
  unfold H.wout H.wlen
  rw [show Lib.itoa (([] : H.T).length : Int) = [48] from it_0]
  rfl
theorem reason_404 (w : World) : Calls Tryz.prog 47 #[.int .i64 404] w fun e w' => e = .returned (.string ⟨#[78, 111, 116, 32, 70, 111, 117, 110, 100]⟩) ∧ w' = w := by
  go_enter Tryz.func47, Tryz.ntmps47
  go_wp2
  go_ret
  exact ⟨rfl, rfl⟩
set_option maxHeartbeats 4000000 in
theorem resp_404 (w : World) (hT : Tabs w) : Calls Tryz.prog 26 #[.agg #[.int .i64 404, .slice none 0 0, .string ⟨#[]⟩]] w fun e w' => e = .returned (.tuple #[S out404, .int .i64 0]) ∧ Below w.heap.size w w' := by
  obtain ⟨X, hX⟩ : ∃ X, X = w.alloc (.cells #[.int .i64 404, .slice none 0 0, .string ⟨#[]⟩] 75) := ⟨_, rfl⟩
  have hbX : Below w.heap.size w X := by rw [hX]; exact (Below.refl _ w).alloc (Nat.le_refl _) _
  have hx : X.heap[w.heap.size]? = some (.cells #[.int .i64 404, .slice none 0 0, .string ⟨#[]⟩] 75 (0, 0)) := by rw [hX]; exact blk_new w _
  have c0 := cell_of_row X w.heap.size 0 _ 75 (0, 0) hx
  have c1 := cell_of_row X w.heap.size 1 _ 75 (0, 0) hx
  have c2 := cell_of_row X w.heap.size 2 _ 75 (0, 0) hx
  have hlx := blk_lt hx
  have HT := Lib.hid (hT.under hbX)
  have Hx := Lib.hid hx
  have HbX := Lib.hid hbX
  clear hT hx hbX
  go_enter Tryz.func26, Tryz.ntmps26
  go_upto_region 1 with (fail)
  rw [← hX]
  clear hX
  have eA : (⟨#[72, 84, 84, 80, 47, 49, 46, 49, 32]⟩ : ByteArray) ++ ⟨#[52, 48, 52]⟩ = ⟨#[72, 84, 84, 80, 47, 49, 46, 49, 32, 52, 48, 52]⟩ := by rfl
  have eB : (⟨#[72, 84, 84, 80, 47, 49, 46, 49, 32, 52, 48, 52]⟩ : ByteArray) ++ ⟨#[32]⟩ = ⟨#[72, 84, 84, 80, 47, 49, 46, 49, 32, 52, 48, 52, 32]⟩ := by rfl
  have eC : (⟨#[72, 84, 84, 80, 47, 49, 46, 49, 32, 52, 48, 52, 32]⟩ : ByteArray) ++ ⟨#[78, 111, 116, 32, 70, 111, 117, 110, 100]⟩ = ⟨#[72, 84, 84, 80, 47, 49, 46, 49, 32, 52, 48, 52, 32, 78, 111, 116, 32, 70, 111, 117, 110, 100]⟩ := by rfl
  have hit : ∀ W, Tabs W → Calls Tryz.prog 46 #[.int .i64 404] W fun e w' => e = .returned (.string ⟨#[52, 48, 52]⟩) ∧ Below W.heap.size W w' := fun W hW => by
    refine (Tryz.strconv_Itoa 404 (by decide) (by decide) W hW.pow).mono fun e w' h => ?_
    obtain ⟨h1, kk, os, h2⟩ := h
    rw [it_404] at h1
    exact ⟨h1, by rw [h2]; exact Lib.below_grow _ _ (Nat.le_refl _) kk os⟩
  have hwr : ∀ W, Tabs W → Calls Tryz.prog 45 #[.string ⟨#[72, 84, 84, 80, 47, 49, 46, 49, 32, 52, 48, 52, 32, 78, 111, 116, 32, 70, 111, 117, 110, 100]⟩, .slice none 0 0, .string ⟨#[]⟩] W fun e w' => e = .returned (.tuple #[S out404, .int .i64 0]) ∧ Below W.heap.size W w' := fun W hW => by
    refine (write_nil W first404 [] (by decide) (by decide) hW).mono fun e w' h => ?_
    rw [if_pos ⟨by decide, by decide⟩, wr_404] at h
    exact ⟨h.2, h.1⟩
  have bx : ∀ W : World, W.heap[w.heap.size]? = some (.cells #[.int .i64 404, .slice none 0 0, .string ⟨#[]⟩] 75 (0, 0)) → W.cell? ⟨w.heap.size, 0, none⟩ = some (.int .i64 404) ∧ W.cell? ⟨w.heap.size, 1, none⟩ = some (.slice none 0 0) ∧ W.cell? ⟨w.heap.size, 2, none⟩ = some (.string ⟨#[]⟩) := fun W h => ⟨cell_of_row W _ 0 _ 75 (0, 0) h, cell_of_row W _ 1 _ 75 (0, 0) h, cell_of_row W _ 2 _ 75 (0, 0) h⟩
  have Bx := Lib.hid bx
  clear bx
  go_wp2_with (go_at_call 44; refine (status_any _ 404).mono ?_; rintro e w2 ⟨rfl, rfl⟩)
  have hd := (Below.refl w2.heap.size w2).drew
  have Hx0 := Lib.hid (blk_under Hx.out hd)
  have HT0 := Lib.hid (HT.out.under hd)
  have Hb0 := Lib.hid (HbX.out.trans (hd.mono HbX.out.size))
  clear hd
  go_region_held3 (fun w' => w'.cell? ⟨w.heap.size, 0, none⟩ = some (.int .i64 404) ∧ w'.cell? ⟨w.heap.size, 1, none⟩ = some (.slice none 0 0) ∧ w'.cell? ⟨w.heap.size, 2, none⟩ = some (.string ⟨#[]⟩))
    (first | exact Bx.out _ Hx6.out | exact Bx.out _ Hx4.out | exact Bx.out _ Hx0.out | go_keep)
    (first | (go_at_call 46; refine (hit _ HT0.out).mono ?_; rintro e w4 ⟨rfl, hb4⟩; have Hx4 := Lib.hid (blk_under Hx0.out hb4); have HT4 := Lib.hid (HT0.out.under hb4); have Hb4 := Lib.hid (Hb0.out.trans (hb4.mono Hb0.out.size)); clear hb4) | (go_at_call 47; refine (reason_404 _).mono ?_; rintro e w5 ⟨rfl, rfl⟩) | (go_at_call 45; refine (hwr _ HT4.out).mono ?_; rintro e w6 ⟨rfl, hb6⟩; have Hx6 := Lib.hid (blk_under Hx4.out hb6); have Hb6 := Lib.hid (Hb4.out.trans (hb6.mono Hb4.out.size)); clear hb6))
  all_goals
    go_wp2
    go_ret2
    exact ⟨rfl, Hb6.out⟩
end Go.Proofs.YtomicdkmbgckkaaGreatDoor

/- HTTP: THE WALK OVER lives. -/
namespace Go.Proofs.YtomicdkmbgckkaaGreatDoor
open Go.RowKit
set_option maxRecDepth 100000
set_option linter.unusedVariables false
set_option linter.unusedSimpArgs false

theorem qout_form {w : World} {B : Nat} {q : H.Rq} {x : Value} (h : QOut w B q x) : ∃ ad n cap, x = .agg #[S q.method, S q.target, .slice ad n cap, S q.body] := by
  obtain ⟨v, rfl, hv⟩ := h
  obtain ⟨ad, cap, rfl⟩ := row_form hv
  exact ⟨ad, _, cap, rfl⟩
theorem la_any (W : World) (hT : Tabs W) : Calls Tryz.prog 14 #[.string ⟨#[80, 79, 83, 84, 32, 47, 118, 49, 47, 108, 111, 103, 115, 32, 72, 84, 84, 80, 47, 49, 46, 49, 13, 10, 67, 111, 110, 116, 101, 110, 116, 45, 76, 101, 110, 103, 116, 104, 58, 32, 50, 13, 10, 13, 10, 104, 105]⟩, .int .i64 10] W fun e w' => Below W.heap.size W w' ∧ ∃ m t ad n cap, e = .returned (.tuple #[.agg #[S m, S t, .slice ad n cap, .string ⟨#[104, 105]⟩], .int .i64 47, .int .i64 0]) := by
  refine (readRequest_any W [80, 79, 83, 84, 32, 47, 118, 49, 47, 108, 111, 103, 115, 32, 72, 84, 84, 80, 47, 49, 46, 49, 13, 10, 67, 111, 110, 116, 101, 110, 116, 45, 76, 101, 110, 103, 116, 104, 58, 32, 50, 13, 10, 13, 10, 104, 105] 10 (by decide) (by decide) hT).mono fun e w' h => ?_
  obtain ⟨hb, x, he, hq⟩ := h
  rw [rq_a] at he hq
  obtain ⟨ad, n, cap, rfl⟩ := qout_form hq
  exact ⟨hb, _, _, ad, n, cap, he⟩
theorem lb_any (W : World) (hT : Tabs W) : Calls Tryz.prog 14 #[.string ⟨#[80, 79, 83, 84, 32, 47, 118, 49, 47, 108, 111, 103, 115, 32, 72, 84, 84, 80, 47, 49, 46, 49, 13, 10, 67, 111, 110, 116, 101, 110, 116, 45, 76, 101, 110, 103, 116, 104, 58, 32, 50, 13, 10, 13, 10, 104]⟩, .int .i64 10] W fun e w' => Below W.heap.size W w' ∧ ∃ m t ad n cap b k, e = .returned (.tuple #[.agg #[S m, S t, .slice ad n cap, S b], .int .i64 k, .int .i64 14]) := by
  refine (readRequest_any W [80, 79, 83, 84, 32, 47, 118, 49, 47, 108, 111, 103, 115, 32, 72, 84, 84, 80, 47, 49, 46, 49, 13, 10, 67, 111, 110, 116, 101, 110, 116, 45, 76, 101, 110, 103, 116, 104, 58, 32, 50, 13, 10, 13, 10, 104] 10 (by decide) (by decide) hT).mono fun e w' h => ?_
  obtain ⟨hb, x, he, hq⟩ := h
  rw [rq_b] at he
  obtain ⟨ad, n, cap, rfl⟩ := qout_form hq
  exact ⟨hb, _, _, ad, n, cap, _, _, he⟩
theorem lc_any (W : World) (hT : Tabs W) : Calls Tryz.prog 14 #[.string ⟨#[71, 69, 84, 32, 47, 32, 72, 84, 84, 80, 47, 49, 46, 48, 13, 10, 13, 10]⟩, .int .i64 10] W fun e w' => Below W.heap.size W w' ∧ ∃ m t ad n cap b k, e = .returned (.tuple #[.agg #[S m, S t, .slice ad n cap, S b], .int .i64 k, .int .i64 13]) := by
  refine (readRequest_any W [71, 69, 84, 32, 47, 32, 72, 84, 84, 80, 47, 49, 46, 48, 13, 10, 13, 10] 10 (by decide) (by decide) hT).mono fun e w' h => ?_
  obtain ⟨hb, x, he, hq⟩ := h
  rw [rq_c] at he
  obtain ⟨ad, n, cap, rfl⟩ := qout_form hq
  exact ⟨hb, _, _, ad, n, cap, _, _, he⟩
end Go.Proofs.YtomicdkmbgckkaaGreatDoor

/- HTTP: WHAT IS WRITTEN, READ (mathematics). -/
namespace Go.Proofs.YtomicdkmbgckkaaGreatDoor
set_option linter.unusedVariables false
set_option linter.unusedSimpArgs false
set_option maxRecDepth 100000
namespace H
theorem idx_at (t r : T) (h : (10 : UInt8) ∉ t) : Lib.indexByte (t ++ 13 :: 10 :: r) 10 = ((t.length + 1 : Nat) : Int) := by
  induction t with
  | nil => rfl
  | cons b t ih =>
    have hb : ¬ b = 10 := fun e => h (by simp [e])
    have := ih (fun e => h (by simp [e]))
    simp only [List.cons_append, Lib.indexByte, beq_iff_eq, hb, if_false, this, List.length_cons]
    rw [if_neg (by omega)]
    omega
theorem line_crlf (t r : T) (h : (10 : UInt8) ∉ t) (hl : t.length ≤ 4096) : line (t ++ 13 :: 10 :: r) = .ok (t, r) := by
  have e1 : (t ++ 13 :: 10 :: r).take 4098 = t ++ 13 :: 10 :: (r.take (4096 - t.length)) := by
    rw [List.take_append]
    rw [List.take_of_length_le (by omega), show 4098 - t.length = (4096 - t.length) + 1 + 1 from by omega]
    simp [List.take_succ_cons]
  unfold line
  simp only [e1, idx_at t _ h]
  rw [if_neg (by omega), if_neg (by omega)]
  have e2 : (t ++ 13 :: 10 :: r).take (((t.length + 1 : Nat) : Int).toNat + 1) = t ++ [13, 10] := by
    rw [show (((t.length + 1 : Nat) : Int).toNat + 1) = t.length + 2 from by omega, List.take_append, List.take_of_length_le (by omega)]
    simp
  have e3 : (t ++ 13 :: 10 :: r).drop (((t.length + 1 : Nat) : Int).toNat + 1) = r := by
    rw [show (((t.length + 1 : Nat) : Int).toNat + 1) = t.length + 2 from by omega, List.drop_append, List.drop_of_length_le (by omega)]
    simp
  have hs : Lib.hasSuffix (t ++ [13, 10]) [13, 10] = true := by
    unfold Lib.hasSuffix
    exact List.isSuffixOf_iff_suffix.2 ⟨t, rfl⟩
  rw [e2, e3, if_pos hs]
  unfold Lib.trimSuffix
  rw [if_pos hs]
  simp
/- digits -/
theorem parse_app (M : Nat) : ∀ (l : T) (acc v d : Nat) (c : UInt8), Lib.parseUintM M acc l = .ok v → c.toNat = 48 + d → d < 10 → v < 1844674407370955162 → v * 10 + d ≤ M → Lib.parseUintM M acc (l ++ [c]) = .ok (v * 10 + d)
  | [], acc, v, d, c, h, hc, hd, hv, hM => by
    simp only [Lib.parseUintM, Lib.NumEnd.ok.injEq] at h
    subst h
    simp only [List.nil_append, Lib.parseUintM]
    rw [if_pos (by omega), if_neg (by omega), if_neg (by omega), show acc * 10 + (c.toNat - 48) = acc * 10 + d from by omega]
  | b :: t, acc, v, d, c, h, hc, hd, hv, hM => by
    simp only [List.cons_append, Lib.parseUintM] at h ⊢
    split at h
    · rename_i h1
      rw [if_pos h1]
      split at h
      · cases h
      · rename_i h2
        rw [if_neg h2]
        split at h
        · cases h
        · rename_i h3
          rw [if_neg h3]
          exact parse_app M t _ v d c h hc hd hv hM
    · cases h
theorem dig_nat (d : Nat) (h : d < 10) : (UInt8.ofNat (48 + d)).toNat = 48 + d := by rw [UInt8.toNat_ofNat']; omega
theorem dec_all : ∀ (u : Nat), u ≤ 65536 → Lib.parseUintM 18446744073709551615 0 (Lib.decDigits u) = .ok u ∧ (∀ b ∈ Lib.decDigits u, 48 ≤ b.toNat ∧ b.toNat ≤ 57) ∧ Lib.decDigits u ≠ [] := by
  intro u
  induction u using Nat.strongRecOn with
  | ind u ih =>
    intro hu
    by_cases h : u < 10
    · rw [Lib.decDigits, dif_pos h]
      refine ⟨?_, ?_, by simp⟩
      · simp only [Lib.parseUintM, dig_nat u h]
        rw [if_pos (by omega), if_neg (by omega), if_neg (by omega)]
        congr 1; omega
      · intro b hb
        simp only [List.mem_singleton] at hb
        subst hb
        rw [dig_nat u h]; omega
    · rw [Lib.decDigits, dif_neg h]
      obtain ⟨h1, h2, h3⟩ := ih (u / 10) (by omega) (by omega)
      refine ⟨?_, ?_, by simp⟩
      · rw [parse_app _ _ _ _ (u % 10) _ h1 (dig_nat _ (by omega)) (by omega) (by omega) (by omega)]
        congr 1; omega
      · intro b hb
        simp only [List.mem_append, List.mem_singleton] at hb
        rcases hb with hb | hb
        · exact h2 b hb
        · subst hb; rw [dig_nat _ (by omega)]; omega
theorem nd_le : ∀ (k u : Nat), u < 10 ^ (k + 1) → Lib.nDigits u ≤ k + 1
  | 0, u, h => by rw [Lib.nDigits_small (by simpa using h)]; omega
  | k + 1, u, h => by
    by_cases h1 : u < 10
    · rw [Lib.nDigits_small h1]; omega
    · rw [Lib.nDigits_big h1]
      have := nd_le k (u / 10) (by rw [Nat.pow_succ] at h; omega)
      omega
theorem itoa_dec (n : Nat) : Lib.itoa (n : Int) = Lib.decDigits n := Lib.itoa_nonneg n
theorem dec_len (u : Nat) (h : u ≤ 65536) : (Lib.decDigits u).length ≤ 9 := by
  rw [Lib.decDigits_length]
  have := nd_le 4 u (by omega)
  omega
theorem trim_id (D : T) (h : ∀ b ∈ D, 48 ≤ b.toNat ∧ b.toNat ≤ 57) : Lib.trimS D [32, 9] = D := by
  have hn : ∀ b ∈ D, ([32, 9] : T).contains b = false := fun b hb => by
    have := h b hb
    have h1 : ¬ b = 32 := fun e => by rw [e] at this; simp at this
    have h2 : ¬ b = 9 := fun e => by rw [e] at this; simp at this
    simp [h1, h2]
  have key : ∀ l : T, (∀ b ∈ l, ([32, 9] : T).contains b = false) → l.dropWhile (([32, 9] : T).contains ·) = l := fun l hl => by
    cases l with
    | nil => rfl
    | cons b t => rw [List.dropWhile_cons, if_neg (by rw [hl b (by simp)]; decide)]
  unfold Lib.trimS Lib.trimLeftS Lib.trimRightS
  rw [key D.reverse (fun b hb => hn b (List.mem_reverse.1 hb)), List.reverse_reverse, key D hn]
theorem trim_sp (D : T) (h : ∀ b ∈ D, 48 ≤ b.toNat ∧ b.toNat ≤ 57) (hne : D ≠ []) : Lib.trimS (32 :: D) [32, 9] = D := by
  have hn : ∀ b ∈ D, ([32, 9] : T).contains b = false := fun b hb => by
    have := h b hb
    have h1 : ¬ b = 32 := fun e => by rw [e] at this; simp at this
    have h2 : ¬ b = 9 := fun e => by rw [e] at this; simp at this
    simp [h1, h2]
  have key : ∀ l : T, (∀ b, l.head? = some b → ([32, 9] : T).contains b = false) → l.dropWhile (([32, 9] : T).contains ·) = l := fun l hl => by
    cases l with
    | nil => rfl
    | cons b t => rw [List.dropWhile_cons, if_neg (by rw [hl b rfl]; decide)]
  unfold Lib.trimS Lib.trimLeftS Lib.trimRightS
  rw [List.reverse_cons]
  have hr : D.reverse ≠ [] := by simpa using hne
  obtain ⟨c, t, hc⟩ : ∃ c t, D.reverse = c :: t := by
    cases h : D.reverse with
    | nil => exact absurd h hr
    | cons c t => exact ⟨c, t, rfl⟩
  have hcm : c ∈ D := List.mem_reverse.1 (by rw [hc]; simp)
  rw [key (D.reverse ++ [32]) (fun b hb => by rw [hc] at hb; simp at hb; subst hb; exact hn c hcm)]
  rw [List.reverse_append, List.reverse_reverse]
  show List.dropWhile _ (32 :: D) = D
  rw [List.dropWhile_cons, if_pos (by decide)]
  exact key D (fun b hb => hn b (List.mem_of_mem_head? hb))
/- a message without heads -/
theorem wlen_no (body : T) (h : body.length ≤ 65536) : (10 : UInt8) ∉ wlen body ∧ (wlen body).length ≤ 4096 ∧ wlen body ≠ [] := by
  obtain ⟨_, h2, _⟩ := dec_all body.length h
  have h3 := dec_len body.length h
  unfold wlen
  rw [itoa_dec]
  refine ⟨fun hm => ?_, ?_, by simp [lengthN]⟩
  · rw [List.append_assoc, List.mem_append] at hm
    rcases hm with hm | hm
    · exact absurd hm (by decide)
    · rw [List.mem_append] at hm
      rcases hm with hm | hm
      · exact absurd hm (by decide)
      · have := h2 10 hm; simp at this
  · have h14 : lengthN.length = 14 := rfl
    simp only [List.length_append, h14, List.length_cons, List.length_nil]
    omega
theorem head_len (D : T) (h : ∀ b ∈ D, 48 ≤ b.toNat ∧ b.toNat ≤ 57) (hne : D ≠ []) : head (lengthN ++ [58, 32] ++ D) = .ok ⟨lengthN, D⟩ := by
  have hc : Lib.cut (lengthN ++ [58, 32] ++ D) [58] = (lengthN, 32 :: D, true) := by
    have hi : Lib.index (lengthN ++ [58, 32] ++ D) [58] = 14 := by
      rw [Lib.index_one]
      simp [lengthN, Lib.indexByte]
    unfold Lib.cut
    simp only [hi]
    simp [lengthN]
  unfold head
  simp only [hc, trim_sp D h hne]
  have h1 : isOf lengthN tok = true := by rfl
  have h2 : isValue D = true := by
    unfold isValue isOf
    rw [trim_id D h]
    have h3 : D.isEmpty = false := by cases D with | nil => exact absurd rfl hne | cons => rfl
    have h4 : D.all (fun b => val b.toNat) = true := List.all_eq_true.2 (fun b hb => by
      have := h b hb
      simp only [val, Bool.or_eq_true, Bool.and_eq_true, decide_eq_true_eq]
      exact .inr ⟨by omega, by omega⟩)
    simp [h3, h4]
  rw [h1, h2]
  rfl
theorem heads_len (body r : T) (h : body.length ≤ 65536) : heads (wlen body ++ 13 :: 10 :: 13 :: 10 :: r) = .ok (⟨[], [Lib.itoa (body.length : Int)], []⟩, r) := by
  obtain ⟨h1, h2, h3⟩ := wlen_no body h
  obtain ⟨_, d2, d3⟩ := dec_all body.length h
  unfold heads
  obtain ⟨n, hn⟩ : ∃ n, (wlen body ++ 13 :: 10 :: 13 :: 10 :: r).length + 1 = n + 1 + 1 := ⟨(wlen body ++ 13 :: 10 :: 13 :: 10 :: r).length - 1, by simp only [List.length_append, List.length_cons]; omega⟩
  rw [hn]
  simp only [headsF]
  rw [line_crlf _ _ h1 h2]
  simp only
  rw [if_neg h3]
  have hh : head (wlen body) = .ok ⟨lengthN, Lib.itoa (body.length : Int)⟩ := by
    unfold wlen
    rw [itoa_dec]
    exact head_len _ d2 d3
  rw [hh]
  simp only
  have ha : addHead ⟨[], [], []⟩ ⟨lengthN, Lib.itoa (body.length : Int)⟩ = .ok ⟨[], [Lib.itoa (body.length : Int)], []⟩ := by
    unfold addHead
    rw [if_pos (by rfl)]
    rfl
  rw [ha]
  simp only
  rw [show (13 :: 10 :: r : T) = [] ++ 13 :: 10 :: r from rfl, line_crlf [] r (by simp) (by simp)]
  simp only [if_true]
abbrev firstP : T := [80, 79, 83, 84, 32, 47, 32, 72, 84, 84, 80, 47, 49, 46, 49]
theorem req_post (r : T) : requestLine (firstP ++ 13 :: 10 :: r) = .ok (([80, 79, 83, 84], [47]), r) := by
  unfold requestLine
  rw [line_crlf firstP r (by decide) (by decide)]
  rfl
theorem whole_len (body : T) (h : body.length ≤ 65536) : whole10 (Lib.itoa (body.length : Int)) 9 = .ok body.length := by
  obtain ⟨h1, _, h3⟩ := dec_all body.length h
  have h4 := dec_len body.length h
  rw [itoa_dec]
  unfold whole10 wholeO
  rw [if_pos h4]
  unfold decO Lib.parseUintB
  rw [if_neg h3, show (2 ^ 64 - 1 : Nat) = 18446744073709551615 from rfl, h1]
theorem body_lenR (most : Int) (body : T) (h : body.length ≤ 65536) : H.body most ⟨[], [Lib.itoa (body.length : Int)], []⟩ body = if (body.length : Int) ≤ most then .ok (body, []) else .error 4 := by
  unfold H.body
  simp only [List.length_nil, List.length_cons, List.headD_cons]
  rw [if_neg (by decide), if_pos (by decide), if_pos (by decide), whole_len body h]
  simp only
  unfold part
  by_cases hm : (body.length : Int) ≤ most
  · rw [if_pos hm, if_neg (by simp; exact hm), if_neg (by simp)]
    simp
  · rw [if_neg hm, if_pos (by simpa using hm)]
theorem most_math (body : T) (most : Int) (h : body.length ≤ 65536) : readRequest (wout firstP body) most =
    if okMost most then (if (body.length : Int) ≤ most then (⟨[80, 79, 83, 84], [47], [], body⟩, (wout firstP body).length, 0) else (⟨[], [], [], []⟩, 0, 4)) else (⟨[], [], [], []⟩, 0, 2) := by
  unfold readRequest
  split
  · have hr : reqR most (wout firstP body) = if (body.length : Int) ≤ most then .ok (⟨[80, 79, 83, 84], [47], [], body⟩, []) else .error 4 := by
      unfold reqR wout
      rw [req_post]
      simp only
      rw [heads_len body body h]
      simp only
      rw [body_lenR most body h]
      by_cases hm : (body.length : Int) ≤ most
      · rw [if_pos hm, if_pos hm]
      · rw [if_neg hm, if_neg hm]
    rw [hr]
    by_cases hm : (body.length : Int) ≤ most
    · rw [if_pos hm, if_pos hm]; simp
    · rw [if_neg hm, if_neg hm]
  · rfl
end H
end Go.Proofs.YtomicdkmbgckkaaGreatDoor

/- HTTP: WHAT IS WRITTEN WITH HEADS, READ (mathematics). -/
namespace Go.Proofs.YtomicdkmbgckkaaGreatDoor
set_option linter.unusedVariables false
set_option linter.unusedSimpArgs false
set_option maxRecDepth 100000
namespace H
def hline (h : Hd) : T := h.name ++ [58, 32] ++ h.value
def isWrong (h : Hd) : Bool := !isOf h.name tok || !isValue h.value || alike h.name lengthN || alike h.name codingN || decide (4096 < h.name.length + 2 + h.value.length)
def whds (hs : List Hd) : T := hs.flatMap fun h => hline h ++ [13, 10]
def woutH (first : T) (hs : List Hd) (body : T) : T := first ++ 13 :: 10 :: (whds hs ++ (wlen body ++ 13 :: 10 :: 13 :: 10 :: body))
def wOk (first : T) (hs : List Hd) (body : T) : Prop := first.length ≤ 4096 ∧ hs.length ≤ 64 ∧ body.length ≤ 65536 ∧ hs.all (fun h => !isWrong h) = true
instance (first : T) (hs : List Hd) (body : T) : Decidable (wOk first hs body) := by unfold wOk; infer_instance
theorem woutH_nil (first body : T) : woutH first [] body = wout first body := rfl

theorem idxB_app (c : UInt8) (a r : T) (h : c ∉ a) : Lib.indexByte (a ++ c :: r) c = ((a.length : Nat) : Int) := by
  induction a with
  | nil => simp [Lib.indexByte]
  | cons b t ih =>
    have hb : ¬ b = c := fun e => h (by simp [e])
    have := ih (fun e => h (by simp [e]))
    simp only [List.cons_append, Lib.indexByte, beq_iff_eq, hb, if_false, this, List.length_cons]
    rw [if_neg (by omega)]
    omega
theorem cut_one (c : UInt8) (a r : T) (h : c ∉ a) : Lib.cut (a ++ c :: r) [c] = (a, r, true) := by
  unfold Lib.cut
  rw [Lib.index_one, idxB_app c a r h, if_pos (by omega)]
  simp
theorem isOf_mem {s : T} {p : Nat → Bool} (h : isOf s p = true) : s ≠ [] ∧ ∀ b ∈ s, p b.toNat = true := by
  unfold isOf at h
  simp only [Bool.and_eq_true, List.all_eq_true] at h
  refine ⟨fun e => by rw [e] at h; simp at h, h.2⟩
theorem isOf_no {s : T} {p : Nat → Bool} (h : isOf s p = true) (c : UInt8) (hc : p c.toNat = false) : c ∉ s := fun hm => by
  have := (isOf_mem h).2 c hm
  rw [hc] at this; cases this
theorem isValue_no {s : T} (h : isValue s = true) : (10 : UInt8) ∉ s ∧ Lib.trimS s [32, 9] = s := by
  unfold isValue at h
  simp only [Bool.or_eq_true, Bool.and_eq_true, decide_eq_true_eq] at h
  rcases h with h | ⟨h1, h2⟩
  · have : s = [] := by simpa using h
    subst this
    exact ⟨by simp, rfl⟩
  · exact ⟨isOf_no h1 10 (by decide), h2.symm⟩
theorem dw_len {p : UInt8 → Bool} (l : T) : (l.dropWhile p).length ≤ l.length := by
  induction l with
  | nil => simp
  | cons b t ih => rw [List.dropWhile_cons]; split <;> simp <;> omega
theorem trim_32 (v : T) (h : Lib.trimS v [32, 9] = v) : Lib.trimS (32 :: v) [32, 9] = v := by
  by_cases hv : v = []
  · subst hv; decide
  · unfold Lib.trimS Lib.trimLeftS Lib.trimRightS at h ⊢
    obtain ⟨p, hp⟩ : ∃ p : UInt8 → Bool, (fun x => ([32, 9] : T).contains x) = p := ⟨_, rfl⟩
    have hp32 : p 32 = true := by rw [← hp]; decide
    rw [hp] at h ⊢
    have l1 : (v.reverse.dropWhile p).length ≤ v.length := by have := dw_len (p := p) v.reverse; simpa using this
    have l2 := dw_len (p := p) (v.reverse.dropWhile p).reverse
    have l3 := congrArg List.length h
    rw [List.length_reverse] at l2
    have e1 : v.reverse.dropWhile p = v.reverse := by
      have hs : v.reverse.dropWhile p <:+ v.reverse := List.dropWhile_suffix p
      exact hs.eq_of_length (by simp; omega)
    rw [e1, List.reverse_reverse] at h
    obtain ⟨c, t, hc⟩ : ∃ c t, v.reverse = c :: t := by
      cases h : v.reverse with
      | nil => simp at h; exact absurd h hv
      | cons c t => exact ⟨c, t, rfl⟩
    have hpc : p c = false := by
      rw [hc, List.dropWhile_cons] at e1
      split at e1
      · have := dw_len (p := p) t
        rw [e1] at this
        simp at this
        omega
      · simpa using ‹¬ p c = true›
    rw [List.reverse_cons, hc, List.cons_append, List.dropWhile_cons, if_neg (by rw [hpc]; decide), ← List.cons_append, ← hc, List.reverse_append, List.reverse_reverse]
    show List.dropWhile p (32 :: v) = v
    rw [List.dropWhile_cons, if_pos hp32, h]
theorem notWrong {h : Hd} (e : isWrong h = false) : isOf h.name tok = true ∧ isValue h.value = true ∧ alike h.name lengthN = false ∧ alike h.name codingN = false ∧ h.name.length + 2 + h.value.length ≤ 4096 := by
  unfold isWrong at e
  simp only [Bool.or_eq_false_iff, Bool.not_eq_eq_eq_not, Bool.not_false, decide_eq_false_iff_not, Nat.not_lt] at e
  obtain ⟨⟨⟨⟨a, b⟩, c⟩, d⟩, f⟩ := e
  exact ⟨a, b, c, d, f⟩
theorem hline_no {h : Hd} (e : isWrong h = false) : (10 : UInt8) ∉ hline h ∧ (hline h).length ≤ 4096 ∧ hline h ≠ [] := by
  obtain ⟨a, b, c, d, f⟩ := notWrong e
  refine ⟨fun hm => ?_, by unfold hline; simp only [List.length_append, List.length_cons, List.length_nil]; omega, by unfold hline; simp⟩
  unfold hline at hm
  simp only [List.mem_append] at hm
  rcases hm with (hm | hm) | hm
  · exact isOf_no a 10 (by decide) hm
  · exact absurd hm (by decide)
  · exact (isValue_no b).1 hm
theorem head_hline {h : Hd} (e : isWrong h = false) : head (hline h) = .ok h := by
  obtain ⟨a, b, c, d, f⟩ := notWrong e
  have hc : Lib.cut (hline h) [58] = (h.name, 32 :: h.value, true) := by
    unfold hline
    rw [List.append_assoc]
    exact cut_one 58 h.name (32 :: h.value) (isOf_no a 58 (by decide))
  unfold head
  simp only [hc, trim_32 h.value (isValue_no b).2, a, b]
  rfl
theorem addHead_ok {h : Hd} (e : isWrong h = false) (f : Fr) (hl : f.hs.length < 64) : addHead f h = .ok { f with hs := f.hs ++ [h] } := by
  obtain ⟨a, b, c, d, _⟩ := notWrong e
  unfold addHead
  rw [if_neg (by rw [c]; decide), if_neg (by rw [d]; decide), if_pos hl]
theorem headsF_step (n : Nat) (f : Fr) (h : Hd) (r : T) (e : isWrong h = false) (hl : f.hs.length < 64) : headsF (n + 1) f (hline h ++ 13 :: 10 :: r) = headsF n { f with hs := f.hs ++ [h] } r := by
  obtain ⟨h1, h2, h3⟩ := hline_no e
  simp only [headsF]
  rw [line_crlf _ _ h1 h2]
  simp only
  rw [if_neg h3, head_hline e]
  simp only
  rw [addHead_ok e f hl]
theorem headsF_all (body r : T) (hb : body.length ≤ 65536) : ∀ (hs : List Hd) (n : Nat) (acc : List Hd), hs.all (fun h => !isWrong h) = true → acc.length + hs.length ≤ 64 → hs.length + 2 ≤ n →
    headsF n ⟨acc, [], []⟩ (whds hs ++ (wlen body ++ 13 :: 10 :: 13 :: 10 :: r)) = .ok (⟨acc ++ hs, [Lib.itoa (body.length : Int)], []⟩, r)
  | [], n, acc, _, hl, hn => by
    obtain ⟨h1, h2, h3⟩ := wlen_no body hb
    obtain ⟨_, d2, d3⟩ := dec_all body.length hb
    obtain ⟨m, rfl⟩ : ∃ m, n = m + 1 + 1 := ⟨n - 2, by simp at hn; omega⟩
    show headsF (m + 1 + 1) ⟨acc, [], []⟩ (wlen body ++ 13 :: 10 :: 13 :: 10 :: r) = _
    simp only [headsF]
    rw [line_crlf _ _ h1 h2]
    simp only
    rw [if_neg h3]
    have hh : head (wlen body) = .ok ⟨lengthN, Lib.itoa (body.length : Int)⟩ := by
      unfold wlen
      rw [itoa_dec]
      exact head_len _ d2 d3
    rw [hh]
    simp only
    have ha : addHead ⟨acc, [], []⟩ ⟨lengthN, Lib.itoa (body.length : Int)⟩ = .ok ⟨acc, [Lib.itoa (body.length : Int)], []⟩ := by
      unfold addHead
      rw [if_pos (by rfl)]
      rfl
    rw [ha]
    simp only
    rw [show (13 :: 10 :: r : T) = [] ++ 13 :: 10 :: r from rfl, line_crlf [] r (by simp) (by simp)]
    simp only [if_true, List.append_nil]
  | h :: t, n, acc, ha, hl, hn => by
    obtain ⟨m, rfl⟩ : ∃ m, n = m + 1 := ⟨n - 1, by simp at hn; omega⟩
    simp only [List.all_cons, Bool.and_eq_true, Bool.not_eq_eq_eq_not, Bool.not_true] at ha
    simp only [List.length_cons] at hl hn
    have e1 : whds (h :: t) ++ (wlen body ++ 13 :: 10 :: 13 :: 10 :: r) = hline h ++ 13 :: 10 :: (whds t ++ (wlen body ++ 13 :: 10 :: 13 :: 10 :: r)) := by
      unfold whds; simp
    rw [e1, headsF_step m _ h _ ha.1 (by simp only; omega)]
    simp only
    rw [headsF_all body r hb t m (acc ++ [h]) ha.2 (by simp; omega) (by omega)]
    simp
theorem whds_len (hs : List Hd) : hs.length ≤ (whds hs).length := by
  induction hs with
  | nil => simp [whds]
  | cons h t ih =>
    have : whds (h :: t) = hline h ++ [13, 10] ++ whds t := rfl
    rw [this]
    simp only [List.length_append, List.length_cons, List.length_nil]
    omega
theorem heads_all (hs : List Hd) (body r : T) (hb : body.length ≤ 65536) (ha : hs.all (fun h => !isWrong h) = true) (hl : hs.length ≤ 64) :
    heads (whds hs ++ (wlen body ++ 13 :: 10 :: 13 :: 10 :: r)) = .ok (⟨hs, [Lib.itoa (body.length : Int)], []⟩, r) := by
  unfold heads
  have := whds_len hs
  rw [headsF_all body r hb hs _ [] ha (by simpa using hl) (by simp only [List.length_append, List.length_cons]; omega)]
  rfl
theorem body_behind (most : Int) (hs : List Hd) (body x : T) (h : body.length ≤ 65536) (hm : (body.length : Int) ≤ most) : H.body most ⟨hs, [Lib.itoa (body.length : Int)], []⟩ (body ++ x) = .ok (body, x) := by
  unfold H.body
  simp only [List.length_nil, List.length_cons, List.headD_cons]
  rw [if_neg (by decide), if_pos (by decide), if_pos (by decide), whole_len body h]
  simp only
  unfold part
  rw [if_neg (by simp; exact hm), if_neg (by simp)]
  simp
/- a request's first line -/
def firstOf (m t : T) : T := m ++ [32] ++ t ++ [32] ++ version
theorem req_first (m t r : T) (h1 : isOf m tok = true) (h2 : isOf t tgt = true) (hl : (firstOf m t).length ≤ 4096) : requestLine (firstOf m t ++ 13 :: 10 :: r) = .ok ((m, t), r) := by
  have hn : (10 : UInt8) ∉ firstOf m t := fun hm => by
    unfold firstOf at hm
    simp only [List.mem_append] at hm
    rcases hm with (((hm | hm) | hm) | hm) | hm
    · exact isOf_no h1 10 (by decide) hm
    · exact absurd hm (by decide)
    · exact isOf_no h2 10 (by decide) hm
    · exact absurd hm (by decide)
    · exact absurd hm (by decide)
  unfold requestLine
  rw [line_crlf _ _ hn hl]
  have c1 : Lib.cut (firstOf m t) [32] = (m, t ++ 32 :: version, true) := by
    have : firstOf m t = m ++ 32 :: (t ++ 32 :: version) := by unfold firstOf; simp
    rw [this]
    exact cut_one 32 m _ (isOf_no h1 32 (by decide))
  have c2 : Lib.cut (t ++ 32 :: version) [32] = (t, version, true) := cut_one 32 t _ (isOf_no h2 32 (by decide))
  simp only [c1, c2, h1, h2]
  rfl
theorem back_req (m t : T) (hs : List Hd) (body x : T) (h1 : isOf m tok = true) (h2 : isOf t tgt = true) (hw : wOk (firstOf m t) hs body) :
    readRequest (woutH (firstOf m t) hs body ++ x) 65536 = (⟨m, t, hs, body⟩, (woutH (firstOf m t) hs body).length, 0) := by
  obtain ⟨w1, w2, w3, w4⟩ := hw
  have e : woutH (firstOf m t) hs body ++ x = firstOf m t ++ 13 :: 10 :: (whds hs ++ (wlen body ++ 13 :: 10 :: 13 :: 10 :: (body ++ x))) := by unfold woutH; simp
  have hr : reqR 65536 (woutH (firstOf m t) hs body ++ x) = .ok (⟨m, t, hs, body⟩, x) := by
    unfold reqR
    rw [e, req_first m t _ h1 h2 w1]
    simp only
    rw [heads_all hs body _ w3 w4 w2]
    simp only
    rw [body_behind 65536 hs body x w3 (by omega)]
  unfold readRequest
  rw [if_pos (by decide), hr]
  simp only [List.length_append, Nat.add_sub_cancel]
/- a response's first line -/
def reason (n : Nat) : T :=
  if n = 200 then [79, 75]
  else if n = 400 then [66, 97, 100, 32, 82, 101, 113, 117, 101, 115, 116]
  else if n = 404 then [78, 111, 116, 32, 70, 111, 117, 110, 100]
  else if n = 405 then [77, 101, 116, 104, 111, 100, 32, 78, 111, 116, 32, 65, 108, 108, 111, 119, 101, 100]
  else if n = 408 then [82, 101, 113, 117, 101, 115, 116, 32, 84, 105, 109, 101, 111, 117, 116]
  else if n = 413 then [67, 111, 110, 116, 101, 110, 116, 32, 84, 111, 111, 32, 76, 97, 114, 103, 101]
  else if n = 415 then [85, 110, 115, 117, 112, 112, 111, 114, 116, 101, 100, 32, 77, 101, 100, 105, 97, 32, 84, 121, 112, 101]
  else if n = 429 then [84, 111, 111, 32, 77, 97, 110, 121, 32, 82, 101, 113, 117, 101, 115, 116, 115]
  else if n = 503 then [83, 101, 114, 118, 105, 99, 101, 32, 85, 110, 97, 118, 97, 105, 108, 97, 98, 108, 101]
  else [79, 116, 104, 101, 114]
theorem reason_ok (n : Nat) : (10 : UInt8) ∉ reason n ∧ (reason n).length ≤ 22 := by
  unfold reason
  repeat' split
  all_goals exact by decide
def firstRs (n : Nat) : T := version ++ [32] ++ Lib.itoa (n : Int) ++ [32] ++ reason n
theorem dig_eq : ∀ a b c d e f : Nat, True := fun _ _ _ _ _ _ => trivial
theorem dec3 (n : Nat) (h1 : 100 ≤ n) (h2 : n ≤ 599) : (Lib.decDigits n).length = 3 := by
  rw [Lib.decDigits_length, Lib.nDigits_big (by omega), Lib.nDigits_big (by omega), Lib.nDigits_small (by omega)]
theorem status_first (n : Nat) (r : T) (h1 : 100 ≤ n) (h2 : n ≤ 599) : statusLine (firstRs n ++ 13 :: 10 :: r) = .ok (n, r) := by
  obtain ⟨d1, d2, d3⟩ := dec_all n (by omega)
  have d4 := dec3 n h1 h2
  obtain ⟨rn, rl⟩ := reason_ok n
  have hn : (10 : UInt8) ∉ firstRs n := fun hm => by
    unfold firstRs at hm
    simp only [List.mem_append] at hm
    rcases hm with (((hm | hm) | hm) | hm) | hm
    · exact absurd hm (by decide)
    · exact absurd hm (by decide)
    · rw [itoa_dec] at hm; have := d2 10 hm; simp at this
    · exact absurd hm (by decide)
    · exact rn hm
  have hl : (firstRs n).length ≤ 4096 := by
    have h8 : version.length = 8 := rfl
    unfold firstRs
    rw [itoa_dec]
    simp only [List.length_append, h8, d4, List.length_cons, List.length_nil]
    omega
  unfold statusLine
  rw [line_crlf _ _ hn hl]
  have e : firstRs n = (version ++ [32]) ++ (Lib.itoa (n : Int) ++ 32 :: reason n) := by unfold firstRs; simp
  have p1 : Lib.hasPrefix (firstRs n) (version ++ [32]) = true := by
    rw [e]; unfold Lib.hasPrefix; exact List.isPrefixOf_iff_prefix.2 ⟨_, rfl⟩
  have p2 : Lib.trimPrefix (firstRs n) (version ++ [32]) = Lib.itoa (n : Int) ++ 32 :: reason n := by
    unfold Lib.trimPrefix; rw [if_pos p1, e, List.drop_append, List.drop_of_length_le (Nat.le_refl _)]; simp
  have c1 : Lib.cut (Lib.itoa (n : Int) ++ 32 :: reason n) [32] = (Lib.itoa (n : Int), reason n, true) := cut_one 32 _ _ (by rw [itoa_dec]; intro hm; have := d2 32 hm; simp at this)
  simp only [p1, p2, c1]
  rw [if_pos (by rw [itoa_dec, d4]; rfl)]
  have hw : whole10 (Lib.itoa (n : Int)) 3 = .ok n := by
    unfold whole10 wholeO
    rw [itoa_dec, if_pos (by omega)]
    unfold decO Lib.parseUintB
    rw [if_neg d3, show (2 ^ 64 - 1 : Nat) = 18446744073709551615 from rfl, d1]
  rw [hw]
  simp only
  rw [if_pos ⟨h1, h2⟩]
theorem back_res (n : Nat) (hs : List Hd) (body x : T) (h1 : 100 ≤ n) (h2 : n ≤ 599) (w2 : hs.length ≤ 64) (w3 : body.length ≤ 65536) (w4 : hs.all (fun h => !isWrong h) = true) :
    readResponse (woutH (firstRs n) hs body ++ x) 65536 = (⟨n, hs, body⟩, (woutH (firstRs n) hs body).length, 0) := by
  have e : woutH (firstRs n) hs body ++ x = firstRs n ++ 13 :: 10 :: (whds hs ++ (wlen body ++ 13 :: 10 :: 13 :: 10 :: (body ++ x))) := by unfold woutH; simp
  have hr : resR 65536 (woutH (firstRs n) hs body ++ x) = .ok (⟨n, hs, body⟩, x) := by
    unfold resR
    rw [e, status_first n _ h1 h2]
    simp only
    rw [heads_all hs body _ w3 w4 w2]
    simp only
    rw [if_pos (by simp), body_behind 65536 hs body x w3 (by omega)]
  unfold readResponse
  rw [if_pos (by decide), hr]
  simp only [List.length_append, Nat.add_sub_cancel]
theorem firstRs_len (n : Nat) (h2 : n ≤ 599) : (firstRs n).length ≤ 100 := by
  have h8 : version.length = 8 := rfl
  obtain ⟨rn, rl⟩ := reason_ok n
  have h9 := dec_len n (by omega)
  unfold firstRs
  rw [itoa_dec]
  simp only [List.length_append, h8, List.length_cons, List.length_nil]
  omega
theorem woutH_len (first : T) (hs : List Hd) (body : T) (hw : wOk first hs body) : (woutH first hs body).length ≤ 400000 := by
  obtain ⟨w1, w2, w3, w4⟩ := hw
  have h5 := (wlen_no body w3).2.1
  have key : ∀ l : List Hd, l.all (fun h => !isWrong h) = true → (whds l).length ≤ 4098 * l.length := by
    intro l
    induction l with
    | nil => simp [whds]
    | cons h t ih =>
      intro ha
      simp only [List.all_cons, Bool.and_eq_true, Bool.not_eq_eq_eq_not, Bool.not_true] at ha
      have h1 := (hline_no ha.1).2.1
      have h2 := ih ha.2
      have : whds (h :: t) = hline h ++ [13, 10] ++ whds t := rfl
      rw [this]
      simp only [List.length_append, List.length_cons, List.length_nil]
      omega
  have := key hs w4
  unfold woutH
  simp only [List.length_append, List.length_cons]
  omega
/- letters of either case -/
def up (b : UInt8) : UInt8 := if 97 ≤ b.toNat ∧ b.toNat ≤ 122 then b - 32 else b
theorem small_up : ∀ b : UInt8, small (up b).toNat = small b.toNat := by
  intro b
  unfold up
  split
  · rename_i h
    have : (b - 32).toNat = b.toNat - 32 := by rw [UInt8.toNat_sub_of_le]; rfl; rw [UInt8.le_iff_toNat_le]; show 32 ≤ b.toNat; omega
    rw [this]
    unfold small
    rw [if_pos (by omega), if_neg (by omega)]
    omega
  · rfl
theorem alike_up : ∀ (a b : T), alike a (b.map up) = alike a b
  | [], [] => rfl
  | [], _ :: _ => rfl
  | _ :: _, [] => rfl
  | a :: s, b :: t => by
    simp only [List.map_cons, alike, small_up, alike_up s t]
end H
end Go.Proofs.YtomicdkmbgckkaaGreatDoor

/- HTTP: OF WHAT IS READ, EACH BEGINNING; WHAT COMES BEHIND (mathematics). -/
namespace Go.Proofs.YtomicdkmbgckkaaGreatDoor
set_option linter.unusedVariables false
set_option linter.unusedSimpArgs false
set_option maxRecDepth 100000
namespace H
structure GoodAt {α : Type} (f : T → R α) (l : T) : Prop where
  one : ∀ a r, f l = .ok (a, r) → ∃ m, l = m ++ r ∧ (∀ x, f (m ++ x) = .ok (a, x)) ∧ ∀ k, k < m.length → f (m.take k) = .error 14
  bad : ∀ e, f l = .error e → e ≠ 14 → ∀ x, f (l ++ x) = .error e
theorem good_bind {α β : Type} {f : T → R α} {g : α → T → R β} {h : T → R β} (h2 : ∀ l, (∀ e, f l = .error e → h l = .error e) ∧ ∀ a r, f l = .ok (a, r) → h l = g a r) (hf : ∀ l, GoodAt f l) (l : T) (hg : ∀ a r, f l = .ok (a, r) → GoodAt (g a) r) : GoodAt h l := by
  have hh : ∀ l, h l = match f l with | .error e => .error e | .ok (a, r) => g a r := fun l => by
    cases hl : f l with
    | error e => exact (h2 l).1 e hl
    | ok p => exact (h2 l).2 p.1 p.2 hl
  clear h2
  refine ⟨fun a r e => ?_, fun e he hne x => ?_⟩
  · rw [hh] at e
    cases hfl : f l with
    | error c => rw [hfl] at e; cases e
    | ok p =>
      obtain ⟨b, s⟩ := p
      rw [hfl] at e
      simp only at e
      obtain ⟨m1, e1, h1, k1⟩ := (hf l).one b s hfl
      obtain ⟨m2, e2, h2, k2⟩ := (hg b s hfl).one a r e
      refine ⟨m1 ++ m2, by rw [e1, e2, List.append_assoc], fun x => ?_, fun k hk => ?_⟩
      · rw [hh, List.append_assoc, h1]
        exact h2 x
      · rw [hh, List.take_append]
        by_cases hk1 : k < m1.length
        · rw [show k - m1.length = 0 from by omega, List.take_zero, List.append_nil, k1 k hk1]
        · rw [List.take_of_length_le (by omega), h1]
          exact k2 _ (by simp at hk; omega)
  · rw [hh] at he ⊢
    cases hfl : f l with
    | error c =>
      rw [hfl] at he
      simp only [Except.error.injEq] at he
      subst he
      rw [(hf l).bad _ hfl hne x]
    | ok p =>
      obtain ⟨b, s⟩ := p
      rw [hfl] at he
      simp only at he
      obtain ⟨m1, e1, h1, k1⟩ := (hf l).one b s hfl
      rw [e1, List.append_assoc, h1]
      exact (hg b s hfl).bad e he hne x
theorem good_pure {α : Type} (a : α) (l : T) : GoodAt (fun l => (.ok (a, l) : R α)) l := by
  refine ⟨fun b r e => ?_, fun e he _ _ => by cases he⟩
  simp only [Except.ok.injEq, Prod.mk.injEq] at e
  obtain ⟨rfl, rfl⟩ := e
  exact ⟨[], rfl, fun x => rfl, fun k hk => by simp at hk⟩
theorem good_error {α : Type} (e : Int) (l : T) : GoodAt (fun _ => (.error e : R α)) l :=
  ⟨fun a r h => (by cases h), fun e' he _ x => he⟩
theorem good_except {α : Type} (c : Except Int α) (l : T) : GoodAt (fun l => (match c with | .error e => .error e | .ok a => .ok (a, l) : R α)) l := by
  cases c with
  | error e => exact good_error e l
  | ok a => exact good_pure a l
/- the line -/
theorem idx_app (a b : T) (c : UInt8) (h : 0 ≤ Lib.indexByte a c) : Lib.indexByte (a ++ b) c = Lib.indexByte a c := by
  induction a with
  | nil => simp [Lib.indexByte] at h
  | cons x t ih =>
    simp only [List.cons_append, Lib.indexByte] at h ⊢
    by_cases hx : x = c
    · simp [hx]
    · simp only [beq_iff_eq, hx, if_false] at h ⊢
      by_cases h1 : Lib.indexByte t c = -1
      · rw [h1] at h; simp at h
      · have h2 : 0 ≤ Lib.indexByte t c := by
          rcases idx_cases t c with h3 | ⟨n, h3, _⟩
          · exact absurd h3 h1
          · omega
        rw [ih h2]
theorem idx_none (a : T) (c : UInt8) (h : c ∉ a) : Lib.indexByte a c = -1 := by
  induction a with
  | nil => rfl
  | cons x t ih =>
    have hx : ¬ x = c := fun e => h (by simp [e])
    simp only [Lib.indexByte, beq_iff_eq, hx, if_false, ih (fun e => h (by simp [e]))]
    rfl
theorem idx_split : ∀ (a : T) (c : UInt8) (n : Nat), Lib.indexByte a c = (n : Int) → c ∉ a.take n ∧ a.take (n + 1) = a.take n ++ [c]
  | [], c, n, h => by simp [Lib.indexByte] at h <;> omega
  | x :: t, c, n, h => by
    simp only [Lib.indexByte, beq_iff_eq] at h
    by_cases hx : x = c
    · subst hx
      rw [if_pos rfl] at h
      obtain rfl : n = 0 := by omega
      exact ⟨by simp, by simp⟩
    · rw [if_neg hx] at h
      rcases idx_cases t c with h3 | ⟨k, h3, _⟩
      · rw [h3] at h; simp at h <;> omega
      · rw [h3, if_neg (by omega)] at h
        obtain rfl : n = k + 1 := by omega
        obtain ⟨i1, i2⟩ := idx_split t c k h3
        refine ⟨?_, by rw [List.take_succ_cons, i2, List.take_succ_cons]; rfl⟩
        rw [List.take_succ_cons]
        simp only [List.mem_cons, not_or]
        exact ⟨fun e => hx e.symm, i1⟩
theorem line_ok {l t r : T} (h : line l = .ok (t, r)) : l = t ++ 13 :: 10 :: r ∧ (10 : UInt8) ∉ t ∧ t.length ≤ 4096 := by
  unfold line at h
  simp only at h
  split at h
  · cases h
  · split at h
    · cases h
    · split at h
      · rename_i h1 h2 h3
        simp only [Except.ok.injEq, Prod.mk.injEq] at h
        obtain ⟨h4, h5⟩ := h
        rcases idx_cases (l.take 4098) 10 with h6 | ⟨n, h6, hn⟩
        · omega
        rw [h6] at h3 h4 h5
        simp only [Int.toNat_natCast] at h3 h4 h5
        rw [List.length_take] at hn
        obtain ⟨i1, i2⟩ := idx_split _ _ _ h6
        rw [List.take_take, Nat.min_eq_left (by omega)] at i1 i2
        rw [List.take_take, Nat.min_eq_left (by omega)] at i2
        unfold Lib.trimSuffix at h4
        rw [if_pos h3, i2] at h4
        unfold Lib.hasSuffix at h3
        obtain ⟨u, hu⟩ := List.isSuffixOf_iff_suffix.1 h3
        have hl2 : (l.take n).length = n := by rw [List.length_take]; omega
        rw [i2] at hu
        have hu2 : u ++ [13] = l.take n := by
          have : (u ++ [13]) ++ [10] = l.take n ++ [10] := by rw [← hu]; simp
          exact List.append_cancel_right this
        have h7 : t = u := by
          rw [← h4, ← hu2]
          simp
        subst h7
        have hlen : t.length + 1 = n := by rw [← hl2, ← hu2]; simp
        refine ⟨?_, fun hm => i1 (by rw [← hu2]; simp [hm]), by omega⟩
        calc l = l.take (n + 1) ++ l.drop (n + 1) := (List.take_append_drop _ _).symm
          _ = t ++ 13 :: 10 :: r := by rw [i2, ← hu2, h5]; simp
      · cases h
theorem line_more (a : T) (h : (10 : UInt8) ∉ a) (hl : a.length < 4098) : line a = .error 14 := by
  unfold line
  have : Lib.indexByte (a.take 4098) 10 = -1 := idx_none _ _ (fun hm => h (List.mem_of_mem_take hm))
  simp only [this]
  rw [if_neg (by omega), if_pos (by omega)]
theorem good_line (l : T) : GoodAt line l := by
  refine ⟨fun t r h => ?_, fun e he hne x => ?_⟩
  · obtain ⟨h1, h2, h3⟩ := line_ok h
    refine ⟨t ++ [13, 10], by rw [h1]; simp, fun x => ?_, fun k hk => ?_⟩
    · have := line_crlf t x h2 h3
      simpa using this
    · refine line_more _ (fun hm => ?_) (by simp only [List.length_take, List.length_append, List.length_cons, List.length_nil] at hk ⊢; omega)
      simp only [List.length_append, List.length_cons, List.length_nil] at hk
      rw [List.take_append] at hm
      rcases List.mem_append.1 hm with hm | hm
      · exact h2 (List.mem_of_mem_take hm)
      · have : k - t.length ≤ 1 := by omega
        have h9 : (10 : UInt8) ∈ ([13] : T) := by
          have e1 : ([13, 10] : T).take (k - t.length) = ([13] : T).take (k - t.length) := by
            rcases Nat.le_one_iff_eq_zero_or_eq_one.1 this with h | h <;> rw [h] <;> rfl
          rw [e1] at hm
          exact List.mem_of_mem_take hm
        simp at h9
  · unfold line at he ⊢
    simp only at he ⊢
    split at he
    · rename_i h1
      simp only [Except.error.injEq] at he
      subst he
      have e1 : (l ++ x).take 4098 = l.take 4098 := by rw [List.take_append, show 4098 - l.length = 0 from by omega]; simp
      rw [e1, if_pos ⟨h1.1, by simp; omega⟩]
    · rename_i h1
      split at he
      · simp only [Except.error.injEq] at he; exact absurd he.symm hne
      · rename_i h2
        have h2 : 0 ≤ Lib.indexByte (l.take 4098) 10 := by omega
        rcases idx_cases (l.take 4098) 10 with h6 | ⟨n, h6, hn⟩
        · omega
        rw [List.length_take] at hn
        have e1 : Lib.indexByte ((l ++ x).take 4098) 10 = Lib.indexByte (l.take 4098) 10 := by
          rw [List.take_append]; exact idx_app _ _ _ h2
        rw [e1, h6]
        rw [h6] at he
        have e2 : (l ++ x).take (((n : Nat) : Int).toNat + 1) = l.take (((n : Nat) : Int).toNat + 1) := by
          rw [List.take_append, show ((n : Nat) : Int).toNat + 1 - l.length = 0 from by simp; omega]; simp
        split at he
        · cases he
        · rename_i h3
          rw [if_neg (by omega), if_neg (by omega), e2, if_neg h3]
          exact he
/- what has so many bytes -/
theorem good_part (most : Int) (n a : Nat) (l : T) : GoodAt (part most n a) l := by
  refine ⟨fun t r h => ?_, fun e he hne x => ?_⟩
  · unfold part at h
    split at h
    · cases h
    · split at h
      · cases h
      · rename_i h1 h2
        simp only [Except.ok.injEq, Prod.mk.injEq] at h
        obtain ⟨rfl, rfl⟩ := h
        have hl : (l.take n).length = n := by rw [List.length_take]; omega
        refine ⟨l.take n, (List.take_append_drop _ _).symm, fun x => ?_, fun k hk => ?_⟩
        · unfold part
          rw [if_neg h1, if_neg (by rw [List.length_append, hl]; omega), List.take_append_of_le_length (by omega), List.take_of_length_le (by omega)]
          rw [List.drop_append, hl, List.drop_of_length_le (by omega)]
          simp
        · unfold part
          rw [if_neg h1, if_pos (by rw [List.length_take, hl]; omega)]
  · unfold part at he ⊢
    split at he
    · rename_i h1
      rw [if_pos h1]; exact he
    · split at he
      · simp only [Except.error.injEq] at he; exact absurd he.symm hne
      · cases he
theorem good_end (l : T) : GoodAt endR l := by
  refine ⟨fun t r h => ?_, fun e he hne x => ?_⟩
  · match l, h with
    | [], h => cases h
    | [a], h =>
      simp only [endR] at h
      split at h <;> cases h
    | a :: b :: u, h =>
      simp only [endR] at h
      split at h
      · rename_i h1
        split at h
        · rename_i h2
          simp only [Except.ok.injEq, Prod.mk.injEq] at h
          obtain ⟨_, rfl⟩ := h
          subst h1 h2
          refine ⟨[13, 10], rfl, fun x => by simp [endR], fun k hk => ?_⟩
          simp only [List.length_cons, List.length_nil] at hk
          rcases Nat.le_one_iff_eq_zero_or_eq_one.1 (by omega : k ≤ 1) with h | h <;> subst h <;> simp [endR]
        · cases h
      · cases h
  · match l, he with
    | [], he => simp only [endR, Except.error.injEq] at he; exact absurd he.symm hne
    | [a], he =>
      simp only [endR] at he
      split at he
      · simp only [Except.error.injEq] at he; exact absurd he.symm hne
      · rename_i h1
        cases x <;> simp only [List.cons_append, List.nil_append, endR, if_neg h1] <;> exact he
    | a :: b :: u, he =>
      simp only [List.cons_append, endR] at he ⊢
      split at he
      · rename_i h1
        rw [if_pos h1]
        split at he
        · cases he
        · rename_i h2
          rw [if_neg h2]; exact he
      · rename_i h1
        rw [if_neg h1]; exact he
end H
end Go.Proofs.YtomicdkmbgckkaaGreatDoor
