/- HTTP: THE WALK OVER write, with heads. -/
import Derived.Test.YtomicdkmbgckkaaGreatDoorGap
namespace Go.Proofs.YtomicdkmbgckkaaGreatDoor
open Go.RowKit
set_option maxRecDepth 100000
set_option linter.unusedVariables false
set_option linter.unusedSimpArgs false

theorem H.idx_ge (p : H.Hd → Bool) : ∀ (hs : List H.Hd) (k : Int), 0 ≤ k → decide (0 ≤ H.idxFrom p k hs) = hs.any p
  | [], k, _ => rfl
  | h :: t, k, hk => by
    have e : H.idxFrom p k (h :: t) = if p h then k else H.idxFrom p (k + 1) t := rfl
    by_cases hp : p h = true
    · rw [if_pos hp] at e
      rw [e, List.any_cons, hp]; simp [hk]
    · rw [if_neg hp] at e
      rw [e, H.idx_ge p t (k + 1) (by omega), List.any_cons]; simp [hp]
def Big (hs : List H.Hd) : Prop := ∀ h ∈ hs, h.name.length ≤ 140737488355000 ∧ h.value.length ≤ 140737488355000
theorem has_any (w : World) (hs : List H.Hd) (ad : Option Addr) (cap : Nat) (hH : Hds w ad hs) (hbig : Big hs) (hmx : hs.length ≤ 281474976710656) : Calls Tryz.prog 70 #[.slice ad hs.length cap, .func (.func 71) #[] #[]] w fun e w' => e = .returned (.bool (hs.any H.isWrong)) ∧ Below w.heap.size w w' := by
  have hi := idx_any w hs ad cap hH hmx 71 #[] H.isWrong (fun args W => by kernel_rfl) (fun W h hm _ => isWrong_any W h.name h.value (hbig h hm))
  rw [← H.idx_ge H.isWrong hs 0 (by omega)]
  obtain ⟨z, hz⟩ : ∃ z, H.idxFrom H.isWrong 0 hs = z := ⟨_, rfl⟩
  rw [hz] at hi ⊢
  clear hz
  go_enter Tryz.func70, Tryz.ntmps70
  go_wp2_with (refine hi.mono ?_; rintro e w' ⟨rfl, hb⟩)
  go_ret
  exact ⟨rfl, hb⟩
/-- what the loop of write keeps -/
structure WL (w : World) (b : Nat) (l : H.T) (W : World) : Prop where
  bld : IsB b b l W
  bel : Below w.heap.size w W
  room : b ≤ W.heap.size
  low : w.heap.size ≤ b
  tabs : Tabs W
  eight : 8 ≤ b
theorem WL.under {w : World} {b : Nat} {l : H.T} {W W' : World} (h : WL w b l W) (hb : Below W.heap.size W W') : WL w b l W' := ⟨isB_under h.bld hb, h.bel.trans (hb.mono h.bel.size), Nat.le_trans h.room hb.size, h.low, h.tabs.under hb, h.eight⟩
theorem WL.put {w : World} {b : Nat} {l s : H.T} {W : World} (h : WL w b l W) (hl : l.length + s.length ≤ 140737488355328) : Calls Tryz.prog 63 #[.pointer (some ⟨b, 0, none⟩), S s] W fun e W' => e = .returned (.tuple #[.int .i64 (s.length : Int), .nilIface]) ∧ WL w b (l ++ s) W' := by
  refine (write_str b b l s W h.bld hl h.room).mono fun e W' hh => ?_
  obtain ⟨h1, h2, h3⟩ := hh
  exact ⟨h1, h2, h.bel.trans (h3.mono h.low), Nat.le_trans h.room h3.size, h.low, h.tabs.keep (h3.mono h.eight), h.eight⟩
theorem H.whds_at (hs : List H.Hd) (j : Nat) (x : H.Hd) (hx : hs[j]? = some x) : H.whds (hs.take (j + 1)) = H.whds (hs.take j) ++ (x.name ++ [58, 32] ++ x.value ++ [13, 10]) := by
  obtain ⟨hlt, e⟩ := List.getElem?_eq_some_iff.1 hx
  rw [List.take_add_one, hx]
  simp [H.whds, H.hline]
theorem H.whds_le : ∀ (l : List H.Hd), l.all (fun h => !H.isWrong h) = true → (H.whds l).length ≤ 4098 * l.length
  | [], _ => by simp [H.whds]
  | h :: t, ha => by
    simp only [List.all_cons, Bool.and_eq_true, Bool.not_eq_eq_eq_not, Bool.not_true] at ha
    have h1 := (H.hline_no ha.1).2.1
    have h2 := H.whds_le t ha.2
    have : H.whds (h :: t) = H.hline h ++ [13, 10] ++ H.whds t := rfl
    rw [this]
    simp only [List.length_append, List.length_cons, List.length_nil]
    omega
theorem H.all_any (hs : List H.Hd) : hs.all (fun h => !H.isWrong h) = !hs.any H.isWrong := by
  induction hs with
  | nil => rfl
  | cons h t ih => rw [List.all_cons, List.any_cons, ih, Bool.not_or]
set_option maxHeartbeats 4000000 in
theorem write_ok (w : World) (first body : H.T) (hs : List H.Hd) (ad : Option Addr) (cap : Nat) (hok : H.wOk first hs body) (hH : Hds w ad hs) (hbig : Big hs) (hT : Tabs w) :
    Calls Tryz.prog 45 #[S first, .slice ad hs.length cap, S body] w fun e w' => Below w.heap.size w w' ∧ e = .returned (.tuple #[S (H.woutH first hs body), .int .i64 0]) := by
  obtain ⟨h1, h3, h2, h4⟩ := hok
  obtain ⟨z, hz⟩ : ∃ z : Int, ((first.length : Nat) : Int) = z := ⟨_, rfl⟩
  obtain ⟨y, hy⟩ : ∃ y : Int, ((body.length : Nat) : Int) = y := ⟨_, rfl⟩
  obtain ⟨x, hx⟩ : ∃ x : Int, ((hs.length : Nat) : Int) = x := ⟨_, rfl⟩
  have h1' : ¬ (4096 : Int) < z := by omega
  have h2' : ¬ (65536 : Int) < y := by omega
  have h3' : ¬ (64 : Int) < x := by omega
  have hn0 := has_any w hs ad cap hH hbig (by omega)
  have h5 : hs.any H.isWrong = false := by rw [H.all_any] at h4; simpa using h4
  rw [h5] at hn0
  have e1 : (⟨first.toArray⟩ : ByteArray) ++ ⟨#[13, 10]⟩ = ⟨(first ++ [13, 10]).toArray⟩ := S_app first [13, 10]
  have e2 : (⟨(H.wlen body).toArray⟩ : ByteArray) ++ ⟨#[13, 10]⟩ = ⟨(H.wlen body ++ [13, 10]).toArray⟩ := S_app _ [13, 10]
  have e3 : (⟨#[13, 10]⟩ : ByteArray) ++ ⟨body.toArray⟩ = ⟨(13 :: 10 :: body).toArray⟩ := S_app [13, 10] body
  have hil := itoa_le body.length h2
  have hwl : (H.wlen body).length ≤ 200 := by
    have h14 : H.lengthN.length = 14 := rfl
    unfold H.wlen
    simp only [List.length_append, h14, List.length_cons, List.length_nil]
    omega
  have htl : ∀ j, (H.whds (hs.take j)).length ≤ 4098 * 64 := fun j => by
    have hta : (hs.take j).all (fun h => !H.isWrong h) = true := List.all_eq_true.2 fun h hm => List.all_eq_true.1 h4 h (List.mem_of_mem_take hm)
    have := H.whds_le _ hta
    have : (hs.take j).length ≤ 64 := by rw [List.length_take]; omega
    omega
  have hxl : ∀ h ∈ hs, h.name.length + 2 + h.value.length ≤ 4096 := fun h hm => (H.notWrong (by have := List.all_eq_true.1 h4 h hm; simpa using this)).2.2.2.2
  have HT := Lib.hid hT
  have HH := Lib.hid hH
  have HH0 := Lib.hid hH
  have h8 := hT.sz
  have Hs := Lib.hid (And.intro h1 h2)
  have Hwl := Lib.hid (And.intro hwl hil)
  have Htl := Lib.hid htl
  have Hxl := Lib.hid hxl
  have H3 := Lib.hid h3
  clear hT hil htl hxl h4 h5 hbig hH
  go_enter Tryz.func45, Tryz.ntmps45
  go_upto_region 3 with (go_at_call 70; refine hn0.mono ?_; rintro e w1 ⟨rfl, hb1⟩)
  have HT1 := Lib.hid (HT.out.under hb1)
  have HH1 := Lib.hid (HH.out.under hb1)
  obtain ⟨X, hX⟩ : ∃ X, X = w1.alloc (.cells #[.pointer none, .slice none 0 0] 111) := ⟨_, rfl⟩
  have hbX : Below w1.heap.size w1 X := by rw [hX]; exact (Below.refl _ w1).alloc (Nat.le_refl _) _
  have hws := hb1.size
  have HW := Lib.hid (show WL w w1.heap.size [] X from ⟨by rw [hX]; exact Lib.fresh_isBuilder 111 5 w1, hb1.trans (hbX.mono hb1.size), hbX.size, hws, HT1.out.under hbX, by omega⟩)
  have HTX := Lib.hid (HT1.out.under hbX)
  have HHX := Lib.hid (HH1.out.under hbX)
  have hbz := hbX.size
  have HbX := Lib.hid (hb1.trans (hbX.mono hb1.size))
  clear hb1 hbX HT1 hn0 HT HH HH1
  go_upto_region 4 with (fail)
  rw [← hX]
  clear hX
  go_wp2_with fail
  refine (HW.out.put (s := first ++ [13, 10]) (by have := Hs.out.1; simp only [List.length_nil, List.length_append, List.length_cons]; omega)).mono ?_
  rintro e w2 ⟨rfl, hw2⟩
  rw [List.nil_append] at hw2
  have HW2 := Lib.hid hw2
  obtain ⟨b, hb⟩ : ∃ b, w1.heap.size = b := ⟨_, rfl⟩
  rw [hb] at HW2 HW hbz ⊢
  clear hw2 hb
  go_wp2
  go_loopw [33] (fun u wr => ∃ j : Nat, u = .int .i64 (j : Int) ∧ j ≤ hs.length ∧ WL w b (first ++ [13, 10] ++ H.whds (hs.take j)) wr) (fun u _ => hs.length - (intOf u).toNat)
  case atStart => exact ⟨0, rfl, Nat.zero_le _, by simpa [H.whds] using HW2.out⟩
  case round =>
    obtain ⟨j, rfl, hj, hwl⟩ := hrel
    have HWr := Lib.hid hwl
    have hlow := hwl.low
    have hroom := hwl.room
    have hbb := hwl.bel.size
    have HHr := Lib.hid (HH0.out.under hwl.bel)
    clear hwl
    by_cases hlt : j < hs.length
    · have hjx : (j : Int) < x := by omega
      have hne : hs ≠ [] := by rintro rfl; simp at hlt
      obtain ⟨g1, o1, rfl, hg1, k1⟩ := HHr.out hne
      obtain ⟨hd, hxd⟩ : ∃ hd, hs[j]? = some hd := ⟨_, List.getElem?_eq_getElem hlt⟩
      obtain ⟨p1, p2⟩ := k1 j hd hxd
      clear k1
      obtain ⟨Y, hY⟩ : ∃ Y, Y = wr.alloc (.cells #[S hd.name, S hd.value] 77) := ⟨_, rfl⟩
      have hyk : Y.heap[wr.heap.size]? = some (.cells #[S hd.name, S hd.value] 77 (0, 0)) := by rw [hY]; exact blk_new wr _
      have hbY : Below wr.heap.size wr Y := by rw [hY]; exact (Below.refl _ wr).alloc (Nat.le_refl _) _
      have HY := Lib.hid (HWr.out.under hbY)
      have hxb := Hxl.out hd (List.mem_of_getElem? hxd)
      have hl4 := headLine_big Y hd.name hd.value ⟨by omega, by omega⟩
      obtain ⟨c0, c1⟩ := box2 hyk
      have hyl := blk_lt hyk
      have e4 : (⟨(hd.name ++ [58, 32] ++ hd.value).toArray⟩ : ByteArray) ++ ⟨#[13, 10]⟩ = ⟨(hd.name ++ [58, 32] ++ hd.value ++ [13, 10]).toArray⟩ := S_app _ [13, 10]
      have hll : (hd.name ++ [58, 32] ++ hd.value ++ [13, 10]).length ≤ 5000 := by simp only [List.length_append, List.length_cons, List.length_nil]; omega
      have Hat := Lib.hid (H.whds_at hs j hd hxd)
      obtain ⟨L, hL⟩ : ∃ L, hd.name ++ [58, 32] ++ hd.value = L := ⟨_, rfl⟩
      rw [hL] at hl4 e4 hll Hat
      have hll2 : L.length ≤ 5000 := by rw [List.length_append] at hll; omega
      clear hbY hyk hL hxb hxd
      go_upto_region 8 with (fail)
      rw [← hY]
      clear hY
      go_wp2_with fail
      refine hl4.mono ?_
      rintro e w5 ⟨rfl, hb5⟩
      have HW5 := Lib.hid (HY.out.under hb5)
      clear hb5 hl4 c0 c1
      go_wp2_with fail
      refine (HW5.out.put (s := L ++ [13, 10]) (by have := Htl.out j; have := Hs.out.1; simp only [List.length_append, List.length_cons, List.length_nil] at hll ⊢; omega)).mono ?_
      rintro e w6 ⟨rfl, hw6⟩
      have HW6 := Lib.hid hw6
      clear hw6
      go_wp2
      go_roundw
      case rel => exact ⟨j + 1, by go_num, by omega, by have := HW6.out; rw [Hat.out]; simpa using this⟩
      case measure => simp [intOf]; omega
    · have hjx : ¬ (j : Int) < x := by omega
      have htk : hs.take j = hs := List.take_of_length_le (by omega)
      rw [htk] at HWr
      have hTw : Tabs wr := HWr.out.tabs
      have hit := Tryz.strconv_Itoa y (by omega) (by omega) wr hTw.pow
      clear hTw
      go_wp2_with fail
      refine hit.mono ?_
      rintro e w4 ⟨rfl, kk, os, hw4⟩
      have hb4 : Below wr.heap.size wr w4 := by rw [hw4]; exact Lib.below_grow _ _ (Nat.le_refl _) kk os
      have HW4 := Lib.hid (HWr.out.under hb4)
      clear hw4 hb4 hit
      have hl4 := headLine_any w4 H.lengthN (Lib.itoa y) (by have := Hwl.out.2; rw [hy] at this; have h14 : H.lengthN.length = 14 := rfl; omega)
      have hwy : H.lengthN ++ [58, 32] ++ Lib.itoa y = H.wlen body := by unfold H.wlen; rw [hy]
      rw [hwy] at hl4
      go_wp2_with fail
      refine hl4.mono ?_
      rintro e w5 ⟨rfl, hb5⟩
      have HW5 := Lib.hid (HW4.out.under hb5)
      clear hb5 hl4 HW4
      go_wp2_with fail
      refine (HW5.out.put (s := H.wlen body ++ [13, 10]) (by have := Hs.out.1; have := Hwl.out.1; have := Htl.out j; rw [htk] at this; simp only [List.length_append, List.length_cons, List.length_nil]; omega)).mono ?_
      rintro e w6 ⟨rfl, hw6⟩
      have HW6 := Lib.hid hw6
      clear hw6 HW5
      go_wp2_with fail
      refine (HW6.out.put (s := 13 :: 10 :: body) (by have := Hs.out; have := Hwl.out.1; have := Htl.out j; rw [htk] at this; simp only [List.length_append, List.length_cons, List.length_nil]; omega)).mono ?_
      rintro e w7 ⟨rfl, hw7⟩
      have HW7 := Lib.hid hw7
      clear hw7 HW6
      go_wp2_with fail
      refine (Tryz.Builder_String_any b b _ w7 HW7.out.bld HW7.out.room).mono ?_
      rintro e w8 ⟨rfl, hb8⟩
      have Hb8 := Lib.hid (HW7.out.bel.trans (hb8.mono HW7.out.low))
      clear hb8
      go_wp2
      go_ret2
      exact ⟨Hb8.out, by first | rfl | (congr 5; simp [H.woutH])⟩
end Go.Proofs.YtomicdkmbgckkaaGreatDoor

/- HTTP: THE WALKS OVER write, WriteRequest, WriteResponse, Find, of any. -/
namespace Go.Proofs.YtomicdkmbgckkaaGreatDoor
open Go.RowKit
set_option maxRecDepth 100000
set_option linter.unusedVariables false
set_option linter.unusedSimpArgs false

set_option maxHeartbeats 1000000 in
theorem write_no (w : World) (first body : H.T) (hs : List H.Hd) (ad : Option Addr) (cap : Nat) (hok : ¬ H.wOk first hs body) (hf : first.length ≤ 281474976710600) (hb : body.length ≤ 140737488355000) (hmx : hs.length ≤ 281474976710656) (hH : Hds w ad hs) (hbig : Big hs) :
    Calls Tryz.prog 45 #[S first, .slice ad hs.length cap, S body] w fun e w' => Below w.heap.size w w' ∧ e = .returned (.tuple #[S [], .int .i64 13]) := by
  have hn0 := has_any w hs ad cap hH hbig hmx
  obtain ⟨z, hz⟩ : ∃ z : Int, ((first.length : Nat) : Int) = z := ⟨_, rfl⟩
  obtain ⟨y, hy⟩ : ∃ y : Int, ((body.length : Nat) : Int) = y := ⟨_, rfl⟩
  obtain ⟨x, hx⟩ : ∃ x : Int, ((hs.length : Nat) : Int) = x := ⟨_, rfl⟩
  by_cases h1 : first.length ≤ 4096
  · have h1' : ¬ (4096 : Int) < z := by omega
    by_cases h3 : hs.length ≤ 64
    · have h3' : ¬ (64 : Int) < x := by omega
      by_cases h2 : body.length ≤ 65536
      · have h2' : ¬ (65536 : Int) < y := by omega
        have h5 : hs.any H.isWrong = true := by
          cases h : hs.any H.isWrong with
          | true => rfl
          | false => exact absurd ⟨h1, h3, h2, by rw [H.all_any, h]; rfl⟩ hok
        rw [h5] at hn0
        clear hH hbig h5 hok
        go_enter Tryz.func45, Tryz.ntmps45
        go_wp2_with (refine hn0.mono ?_; rintro e w1 ⟨rfl, hb1⟩)
        go_ret2
        exact ⟨hb1, rfl⟩
      · have h2' : (65536 : Int) < y := by omega
        clear hH hbig hok hn0
        go_enter Tryz.func45, Tryz.ntmps45
        go_wp2
        go_ret2
        exact ⟨Below.refl _ _, rfl⟩
    · have h3' : (64 : Int) < x := by omega
      clear hH hbig hok hn0
      go_enter Tryz.func45, Tryz.ntmps45
      go_wp2
      go_ret2
      exact ⟨Below.refl _ _, rfl⟩
  · have h1' : (4096 : Int) < z := by omega
    clear hH hbig hok hn0
    go_enter Tryz.func45, Tryz.ntmps45
    go_wp2
    go_ret2
    exact ⟨Below.refl _ _, rfl⟩
def H.writeA (first : H.T) (hs : List H.Hd) (body : H.T) : H.T × Int := if H.wOk first hs body then (H.woutH first hs body, 0) else ([], 13)
theorem write_any (w : World) (first body : H.T) (hs : List H.Hd) (ad : Option Addr) (cap : Nat) (hf : first.length ≤ 281474976710600) (hb : body.length ≤ 140737488355000) (hmx : hs.length ≤ 281474976710656) (hH : Hds w ad hs) (hbig : Big hs) (hT : Tabs w) :
    Calls Tryz.prog 45 #[S first, .slice ad hs.length cap, S body] w fun e w' => e = .returned (.tuple #[S (H.writeA first hs body).1, .int .i64 (H.writeA first hs body).2]) ∧ Below w.heap.size w w' := by
  unfold H.writeA
  by_cases h : H.wOk first hs body
  · rw [if_pos h]
    exact (write_ok w first body hs ad cap h hH hbig hT).mono fun e w' h => ⟨h.2, h.1⟩
  · rw [if_neg h]
    exact (write_no w first body hs ad cap h hf hb hmx hH hbig).mono fun e w' h => ⟨h.2, h.1⟩
/-- WriteRequest -/
def H.writeReq (q : H.Rq) : H.T × Int := if H.isOf q.method H.tok && H.isOf q.target H.tgt then H.writeA (H.firstOf q.method q.target) q.hs q.body else ([], 13)
/-- a request that came in: its heads, how long its texts are -/
structure RqIn (w : World) (ad : Option Addr) (q : H.Rq) : Prop where
  hds : Hds w ad q.hs
  big : Big q.hs
  many : q.hs.length ≤ 281474976710656
  m : q.method.length ≤ 140737488355000
  t : q.target.length ≤ 140737488355000
  b : q.body.length ≤ 140737488355000
theorem RqIn.under {w w' : World} {ad : Option Addr} {q : H.Rq} (h : RqIn w ad q) (hb : Below w.heap.size w w') : RqIn w' ad q := ⟨h.hds.under hb, h.big, h.many, h.m, h.t, h.b⟩
end Go.Proofs.YtomicdkmbgckkaaGreatDoor

/- HTTP: THE WALKS OVER reason, WriteResponse, of any. -/
namespace Go.Proofs.YtomicdkmbgckkaaGreatDoor
open Go.RowKit
set_option maxRecDepth 100000
set_option linter.unusedVariables false
set_option linter.unusedSimpArgs false

set_option maxHeartbeats 1000000 in
theorem reason_any (w : World) (n : Nat) (hn : n ≤ 599) : Calls Tryz.prog 47 #[.int .i64 (n : Int)] w fun e w' => e = .returned (S (H.reason n)) ∧ w' = w := by
  by_cases h200 : n = 200
  · subst h200
    go_enter Tryz.func47, Tryz.ntmps47
    go_wp2
    go_ret
    exact ⟨rfl, rfl⟩
  · have j200 : ¬ (n : Int) = 200 := by omega
    by_cases h400 : n = 400
    · subst h400
      go_enter Tryz.func47, Tryz.ntmps47
      go_wp2
      go_ret
      exact ⟨rfl, rfl⟩
    · have j400 : ¬ (n : Int) = 400 := by omega
      by_cases h404 : n = 404
      · subst h404
        go_enter Tryz.func47, Tryz.ntmps47
        go_wp2
        go_ret
        exact ⟨rfl, rfl⟩
      · have j404 : ¬ (n : Int) = 404 := by omega
        by_cases h405 : n = 405
        · subst h405
          go_enter Tryz.func47, Tryz.ntmps47
          go_wp2
          go_ret
          exact ⟨rfl, rfl⟩
        · have j405 : ¬ (n : Int) = 405 := by omega
          by_cases h408 : n = 408
          · subst h408
            go_enter Tryz.func47, Tryz.ntmps47
            go_wp2
            go_ret
            exact ⟨rfl, rfl⟩
          · have j408 : ¬ (n : Int) = 408 := by omega
            by_cases h413 : n = 413
            · subst h413
              go_enter Tryz.func47, Tryz.ntmps47
              go_wp2
              go_ret
              exact ⟨rfl, rfl⟩
            · have j413 : ¬ (n : Int) = 413 := by omega
              by_cases h415 : n = 415
              · subst h415
                go_enter Tryz.func47, Tryz.ntmps47
                go_wp2
                go_ret
                exact ⟨rfl, rfl⟩
              · have j415 : ¬ (n : Int) = 415 := by omega
                by_cases h429 : n = 429
                · subst h429
                  go_enter Tryz.func47, Tryz.ntmps47
                  go_wp2
                  go_ret
                  exact ⟨rfl, rfl⟩
                · have j429 : ¬ (n : Int) = 429 := by omega
                  by_cases h503 : n = 503
                  · subst h503
                    go_enter Tryz.func47, Tryz.ntmps47
                    go_wp2
                    go_ret
                    exact ⟨rfl, rfl⟩
                  · have j503 : ¬ (n : Int) = 503 := by omega
                    have e : H.reason n = [79, 116, 104, 101, 114] := by simp only [H.reason, h200, h400, h404, h405, h408, h413, h415, h429, h503, if_false]
                    rw [e]
                    clear e h200 h400 h404 h405 h408 h413 h415 h429 h503
                    go_enter Tryz.func47, Tryz.ntmps47
                    go_wp2
                    go_ret
                    exact ⟨rfl, rfl⟩
/-- WriteResponse -/
def H.writeRes (st : Int) (hs : List H.Hd) (b : H.T) : H.T × Int := if 100 ≤ st ∧ st ≤ 599 then H.writeA (H.firstRs st.toNat) hs b else ([], 13)
/-- a response that came in -/
structure RsIn (w : World) (ad : Option Addr) (hs : List H.Hd) (b : H.T) : Prop where
  hds : Hds w ad hs
  big : Big hs
  many : hs.length ≤ 281474976710656
  b : b.length ≤ 140737488355000
theorem RsIn.under {w w' : World} {ad : Option Addr} {hs : List H.Hd} {b : H.T} (h : RsIn w ad hs b) (hb : Below w.heap.size w w') : RsIn w' ad hs b := ⟨h.hds.under hb, h.big, h.many, h.b⟩
theorem box3 {w : World} {g : Nat} {x0 x1 x2 : Value} {t : TypeId} (h : w.heap[g]? = some (.cells #[x0, x1, x2] t (0, 0))) : w.cell? ⟨g, 0, none⟩ = some x0 ∧ w.cell? ⟨g, 1, none⟩ = some x1 ∧ w.cell? ⟨g, 2, none⟩ = some x2 :=
  ⟨cell_of_row w g 0 _ t (0, 0) h, cell_of_row w g 1 _ t (0, 0) h, cell_of_row w g 2 _ t (0, 0) h⟩
set_option maxHeartbeats 4000000 in
theorem writeRes_any (w : World) (st : Int) (hst : -9223372036854775808 ≤ st ∧ st ≤ 9223372036854775807) (hs : List H.Hd) (body : H.T) (ad : Option Addr) (cap : Nat) (hq : RsIn w ad hs body) (hT : Tabs w) :
    Calls Tryz.prog 26 #[.agg #[.int .i64 st, .slice ad hs.length cap, S body]] w fun e w' => e = .returned (.tuple #[S (H.writeRes st hs body).1, .int .i64 (H.writeRes st hs body).2]) ∧ Below w.heap.size w w' := by
  obtain ⟨X, hX⟩ : ∃ X, X = w.alloc (.cells #[.int .i64 st, .slice ad hs.length cap, S body] 75) := ⟨_, rfl⟩
  have hbX : Below w.heap.size w X := by rw [hX]; exact (Below.refl _ w).alloc (Nat.le_refl _) _
  have hx : X.heap[w.heap.size]? = some (.cells #[.int .i64 st, .slice ad hs.length cap, S body] 75 (0, 0)) := by rw [hX]; exact blk_new w _
  obtain ⟨c0, c1, c2⟩ := box3 hx
  have hlx := blk_lt hx
  have hss := status_any X st
  by_cases h1 : 100 ≤ st ∧ st ≤ 599
  · obtain ⟨n, rfl⟩ : ∃ n : Nat, st = (n : Int) := ⟨st.toNat, by omega⟩
    have hn1 : 100 ≤ n := by omega
    have hn2 : n ≤ 599 := by omega
    rw [show (decide (100 ≤ (n : Int)) && decide ((n : Int) ≤ 599)) = true from by simp; omega] at hss
    have HT := Lib.hid (hT.under hbX)
    have HQ := Lib.hid (hq.under hbX)
    have Hx := Lib.hid hx
    have HbX := Lib.hid hbX
    have hit : ∀ W, Tabs W → Calls Tryz.prog 46 #[.int .i64 (n : Int)] W fun e w' => e = .returned (S (Lib.itoa (n : Int))) ∧ Below W.heap.size W w' := fun W hW => by
      refine (Tryz.strconv_Itoa (n : Int) (by omega) (by omega) W hW.pow).mono fun e w' h => ?_
      obtain ⟨h1, kk, os, h2⟩ := h
      exact ⟨h1, by rw [h2]; exact Lib.below_grow _ _ (Nat.le_refl _) kk os⟩
    have hrs := fun W => reason_any W n hn2
    have hfl := H.firstRs_len n hn2
    have hwr : ∀ W, Tabs W → RsIn W ad hs body → Calls Tryz.prog 45 #[S (H.firstRs n), .slice ad hs.length cap, S body] W fun e w' => e = .returned (.tuple #[S (H.writeA (H.firstRs n) hs body).1, .int .i64 (H.writeA (H.firstRs n) hs body).2]) ∧ Below W.heap.size W w' := fun W hW hQ => write_any W (H.firstRs n) body hs ad cap (by omega) hQ.b hQ.many hQ.hds hQ.big hW
    have e0 : H.writeRes (n : Int) hs body = H.writeA (H.firstRs n) hs body := by unfold H.writeRes; rw [if_pos h1]; rfl
    rw [e0]
    obtain ⟨za, hZ⟩ : ∃ a, H.writeA (H.firstRs n) hs body = a := ⟨_, rfl⟩
    simp only [hZ] at hwr ⊢
    have hfe : H.firstRs n = H.version ++ [32] ++ Lib.itoa (n : Int) ++ [32] ++ H.reason n := rfl
    rw [hfe] at hwr hfl
    have eA := S_app (H.version ++ [32]) (Lib.itoa (n : Int))
    have eB := S_app (H.version ++ [32] ++ Lib.itoa (n : Int)) [32]
    have eC := S_app (H.version ++ [32] ++ Lib.itoa (n : Int) ++ [32]) (H.reason n)
    obtain ⟨I, hI⟩ : ∃ I, Lib.itoa (n : Int) = I := ⟨_, rfl⟩
    obtain ⟨R, hR⟩ : ∃ R, H.reason n = R := ⟨_, rfl⟩
    rw [hI, hR] at hwr hfl
    rw [hI] at hit eA eB eC
    rw [hR] at hrs eC
    have hl1 : I.length ≤ 100 := by simp only [List.length_append] at hfl; omega
    have hl2 : R.length ≤ 100 := by simp only [List.length_append] at hfl; omega
    have HW := Lib.hid hwr
    obtain ⟨f1, g1⟩ : ∃ f, H.version ++ [32] ++ I = f := ⟨_, rfl⟩
    rw [g1] at eA eB eC HW hfl
    obtain ⟨f2, g2⟩ : ∃ f, f1 ++ [32] = f := ⟨_, rfl⟩
    rw [g2] at eB eC HW hfl
    have hl4 : f2.length ≤ 100 := by simp only [List.length_append] at hfl; omega
    have hl3 : f1.length ≤ 100 := by rw [← g2] at hl4; simp only [List.length_append] at hl4; omega
    obtain ⟨f3, g3⟩ : ∃ f, f2 ++ R = f := ⟨_, rfl⟩
    rw [g3] at eC HW
    have eA' : (⟨#[72, 84, 84, 80, 47, 49, 46, 49, 32]⟩ : ByteArray) ++ ⟨I.toArray⟩ = ⟨f1.toArray⟩ := eA
    have eB' : (⟨f1.toArray⟩ : ByteArray) ++ ⟨#[32]⟩ = ⟨f2.toArray⟩ := eB
    have o1 : ∀ W, (Op.stringOp .add ⟨#[72, 84, 84, 80, 47, 49, 46, 49, 32]⟩ ⟨I.toArray⟩).run Tryz.prog W = .ok (S f1) W := fun W => by rw [run_string_add_sum W _ _ (by have h1 : (⟨#[72, 84, 84, 80, 47, 49, 46, 49, 32]⟩ : ByteArray).size = 9 := rfl; have h2 := S_size I; omega), eA']
    have o2 : ∀ W, (Op.stringOp .add ⟨f1.toArray⟩ ⟨#[32]⟩).run Tryz.prog W = .ok (S f2) W := fun W => by rw [run_string_add_sum W _ _ (by have h1 : (⟨#[32]⟩ : ByteArray).size = 1 := rfl; have h2 := S_size f1; omega), eB']
    have o3 : ∀ W, (Op.stringOp .add ⟨f2.toArray⟩ ⟨R.toArray⟩).run Tryz.prog W = .ok (S f3) W := fun W => by rw [run_string_add_sum W _ _ (by have h1 := S_size f2; have h2 := S_size R; omega), eC]
    clear hT hq hx hbX g1 g2 g3 hZ hfl hwr eA eB e0 hfe hI hR
    go_enter Tryz.func26, Tryz.ntmps26
    go_upto_region 1 with (fail)
    rw [← hX]
    clear hX
    go_wp2_with (go_at_call 44; refine hss.mono ?_; rintro e w2 ⟨rfl, rfl⟩)
    have hd := (Below.refl w2.heap.size w2).drew
    have Hx0 := Lib.hid (blk_under Hx.out hd)
    have HT0 := Lib.hid (HT.out.under hd)
    have HQ0 := Lib.hid (HQ.out.under hd)
    have Hb0 := Lib.hid (HbX.out.trans (hd.mono HbX.out.size))
    clear hd
    go_region_held3 (fun w' => w'.cell? ⟨w.heap.size, 0, none⟩ = some (.int .i64 (n : Int)) ∧ w'.cell? ⟨w.heap.size, 1, none⟩ = some (.slice ad hs.length cap) ∧ w'.cell? ⟨w.heap.size, 2, none⟩ = some (S body)) (first | exact box3 Hx6.out | exact box3 Hx4.out | exact box3 Hx0.out | go_keep) (first | (go_at_call 46; refine (hit _ HT0.out).mono ?_; rintro e w4 ⟨rfl, hb4⟩; have Hx4 := Lib.hid (blk_under Hx0.out hb4); have HT4 := Lib.hid (HT0.out.under hb4); have HQ4 := Lib.hid (HQ0.out.under hb4); have Hb4 := Lib.hid (Hb0.out.trans (hb4.mono Hb0.out.size)); clear hb4) | (go_at_call 47; refine (hrs _).mono ?_; rintro e w5 ⟨rfl, rfl⟩) | (go_at_call 45; refine (HW.out _ HT4.out HQ4.out).mono ?_; rintro e w6 ⟨rfl, hb6⟩; have Hx6 := Lib.hid (blk_under Hx4.out hb6); have Hb6 := Lib.hid (Hb4.out.trans (hb6.mono Hb4.out.size)); clear hb6))
    all_goals
      go_wp2
      go_ret2
      exact ⟨rfl, Hb6.out⟩
  · have e0 : H.writeRes st hs body = ([], 13) := by unfold H.writeRes; rw [if_neg h1]
    rw [e0]
    rw [show (decide (100 ≤ st) && decide (st ≤ 599)) = false from by simp; omega] at hss
    have HbX := Lib.hid hbX
    clear hT hq hx hbX e0
    go_enter Tryz.func26, Tryz.ntmps26
    go_upto_region 1 with (fail)
    rw [← hX]
    clear hX
    go_wp2_with (go_at_call 44; refine hss.mono ?_; rintro e w2 ⟨rfl, rfl⟩)
    go_ret2
    exact ⟨rfl, HbX.out⟩
end Go.Proofs.YtomicdkmbgckkaaGreatDoor
