/- CONF: THE ITERATOR OF lines. -/
import Derived.Test.YtegobomfhdfodaaGreatDoorCz
namespace Go.Proofs.YtegobomfhdfodaaGreatDoor
open Go.RowKit Go.Shelf
attribute [local go_sem] Oper.semAt_some
set_option maxRecDepth 100000
set_option linter.unusedVariables false
set_option linter.unusedSimpArgs false

theorem lines_any (w : World) (s : K.T) : Calls Tryz.prog 29 #[S s] w fun e w' => e = .returned (.func (.func 45) #[] #[.pointer (some ⟨w.heap.size, 0, none⟩)]) ∧ w.alloc (.cells #[S s] 9) = w' := by
  go_enter Tryz.func29, Tryz.ntmps29
  go_wp2
  go_ret
  exact ⟨rfl, rfl⟩
theorem splitseq_any (w : World) (s : K.T) (t : ByteArray) : Calls Tryz.prog 46 #[S s, .string t] w fun e w' => e = .returned (.func (.func 110) #[] #[.pointer (some ⟨w.heap.size + 1, 0, none⟩), .pointer (some ⟨w.heap.size, 0, none⟩), .pointer (some ⟨w.heap.size + 1 + 1, 0, none⟩)]) ∧ ((w.alloc (.cells #[S s] 9)).alloc (.cells #[.string t] 9)).alloc (.cells #[.int .i64 0] 3) = w' := by
  have h : Calls Tryz.prog 82 #[S s, .string t, .int .i64 0] w fun e w' => e = .returned (.func (.func 110) #[] #[.pointer (some ⟨w.heap.size + 1, 0, none⟩), .pointer (some ⟨w.heap.size, 0, none⟩), .pointer (some ⟨w.heap.size + 1 + 1, 0, none⟩)]) ∧ ((w.alloc (.cells #[S s] 9)).alloc (.cells #[.string t] 9)).alloc (.cells #[.int .i64 0] 3) = w' := by
    go_enter Tryz.func82, Tryz.ntmps82
    go_wp2
    go_ret
    exact ⟨rfl, rfl⟩
  go_enter Tryz.func46, Tryz.ntmps46
  go_wp2_with (go_at_call 82; refine h.mono ?_; rintro e w1 ⟨rfl, rfl⟩)
  go_ret
  exact ⟨rfl, rfl⟩
/-- what a round leaves for lines -/
def KpL (B : Nat) (W W' : World) : Prop := Kpn B 5 W W' ∧ KeepsFrom B W W'
theorem KpL.trans {B : Nat} {A C D : World} (h : KpL B A C) (k : KpL B C D) : KpL B A D := ⟨h.1.trans k.1, h.2.trans k.2⟩
theorem kf_mono {B B' : Nat} {W W' : World} (h : KeepsFrom B W W') (hB : B ≤ B') : KeepsFrom B' W W' := ⟨h.size, fun k o hk => h.same k o (by omega)⟩
theorem kf_set (B : Nat) (W : World) (g i : Nat) (v : Value) : KeepsFrom B W (W.setCell ⟨g, i, none⟩ v) := (KeepsOthers.setCell W ⟨g, i, none⟩ v).from B
theorem Kpn.set {b c g : Nat} (W : World) (i : Nat) (v : Value) (h : g < b ∨ b + c ≤ g) : Kpn b c W (W.setCell ⟨g, i, none⟩ v) :=
  ⟨by simp [World.setCell], fun k cs t f h1 h2 _ hk => (Below.heap_setCell W ⟨g, i, none⟩ v k (by show k ≠ g; omega)).trans hk⟩
def XL (B : Nat) (r : Nat) : Prop := r = B + 1 ∨ r = B + 2
set_option maxHeartbeats 8000000 in
theorem lines_it (l Bq N B : Nat) (s : K.T) (hl : s.length ≤ 100000) (W : World) (hB : B = W.heap.size) (hq : W.heap[Bq]? = some (.cells #[S s] 9 (0, 0))) (J Jx : List (Nat × K.T) → World → Prop) (hJ : AbX B (XL B) J) (hJx : AbX B (XL B) Jx) (hN : (K.pieces s).length ≤ N)
    (hY : Round Fence.wide 4 Tryz.prog l (fun x : Nat × K.T => #[.int .i64 (x.1 : Int), S x.2]) (fun x => x.2.length ≤ 100000) (KpL B) N (B + 5) J Jx) (h0 : J [] W) :
    CallsIn Fence.wide 5 Tryz.prog 45 #[.func (.yield l) #[] #[], .pointer (some ⟨Bq, 0, none⟩)] W (SeqEnd (fun xs => xs = K.linesOf s) (fun pre => pre <+: K.linesOf s) J Jx) := by
  subst hB
  refine callsIn_of_wp_marks Tryz.func45 rfl trivial ?_ rfl
  simp only [Tryz.ntmps45, List.size_toArray, List.length_cons, List.length_nil, Nat.reduceAdd, Nat.reduceSub, Array.replicate_succ, Array.replicate_zero, List.push_toArray, List.append_toArray, List.nil_append, List.cons_append]
  obtain ⟨W0, hW0⟩ : ∃ X, X = (W.alloc (.cells #[.func (.yield l) #[] #[]] 88)).alloc (.cells #[.int .i64 0] 3) := ⟨_, rfl⟩
  have hb0 : Below W.heap.size W W0 := by rw [hW0]; exact ((Below.refl _ W).alloc (Nat.le_refl _) _).alloc (by simp) _
  have hy0 : W0.heap[W.heap.size]? = some (.cells #[.func (.yield l) #[] #[]] 88 (0, 0)) := by rw [hW0]; exact blk_alloc (blk_new W _) _
  have hn0 : W0.heap[W.heap.size + 1]? = some (.cells #[.int .i64 0] 3 (0, 0)) := by
    have := blk_new (W.alloc (.cells #[.func (.yield l) #[] #[]] 88)) (.cells #[.int .i64 0] 3)
    rw [World.size_alloc] at this
    rw [hW0]; exact this
  have hs0 : W0.heap.size = W.heap.size + 2 := by rw [hW0]; simp
  have hq0 := cell1 (blk_under hq hb0)
  have hlq := blk_lt (blk_under hq hb0)
  gi_upto_region 2 with (fail)
  rw [← hW0]
  clear hW0
  gi_wp2_with fail
  refine ⟨trivial, ?_⟩
  refine (callsIn_wide.2 (splitseq_any W0 s ⟨#[10]⟩)).mono ?_
  rintro e w6 ⟨rfl, hw6⟩
  obtain ⟨W1, hW1⟩ : ∃ X, X = w6 := ⟨_, rfl⟩
  rw [← hW1] at hw6 ⊢
  clear hW1
  have hb1 : Below W0.heap.size W0 W1 := by rw [← hw6]; exact (((Below.refl _ W0).alloc (Nat.le_refl _) _).alloc (by simp) _).alloc (by simp; omega) _
  have hs1 : W1.heap.size = W.heap.size + 5 := by rw [← hw6]; simp; omega
  have ha : W1.heap[W.heap.size + 2]? = some (.cells #[S s] 9 (0, 0)) ∧ W1.heap[W.heap.size + 2 + 1]? = some (.cells #[.string ⟨#[10]⟩] 9 (0, 0)) ∧ W1.heap[W.heap.size + 2 + 1 + 1]? = some (.cells #[.int .i64 0] 3 (0, 0)) := by
    have h1 := blk_new W0 (.cells #[S s] 9)
    have h2 := blk_new (W0.alloc (.cells #[S s] 9)) (.cells #[.string ⟨#[10]⟩] 9)
    have h3 := blk_new ((W0.alloc (.cells #[S s] 9)).alloc (.cells #[.string ⟨#[10]⟩] 9)) (.cells #[.int .i64 0] 3)
    simp only [World.size_alloc, hs0] at h1 h2 h3
    rw [← hw6]
    exact ⟨blk_alloc (blk_alloc h1 _) _, blk_alloc h2 _, h3⟩
  have hy1 := blk_under hy0 hb1
  have hn1 := blk_under hn0 hb1
  have hB1 : Below W.heap.size W W1 := hb0.trans (hb1.mono hb0.size)
  rw [hs0]
  have HA := Lib.hid ha
  have HS := Lib.hid hs1
  clear hw6 hn0 hq0 hlq hb0 hb1 hs0 hs1 ha hy0
  gi_wp2
  refine range_X (F := Fence.wide) (n := 5) rfl (by omega) (gf := 110) (lb := #[.pointer (some ⟨W.heap.size + 2 + 1, 0, none⟩), .pointer (some ⟨W.heap.size + 2, 0, none⟩), .pointer (some ⟨W.heap.size + 2 + 1 + 1, 0, none⟩)]) rfl trivial (enters_of Tryz.func110 (by kernel_rfl) rfl)
      (encs := fun x : K.T => #[S x]) (El := fun x => x.length ≤ 100000) (Kp := Kpn (W.heap.size + 2) 3) (S := fun xs => xs = K.pieces s) (Sp := fun pre => pre <+: K.pieces s) (N := (K.pieces s).length) (M := 0) (fun r => r = W.heap.size + 2) (fun r hr => by have := HS.out; omega) (fun h k => h.trans k) (fun V o o' ho hc => Kpn.put _ _ V _ o o' ho hc) (fun _ => rfl)
      (fun pre X => (X.heap[W.heap.size]? = some (.cells #[.func (.yield l) #[] #[]] 88 (0, 0)) ∧ X.heap[W.heap.size + 1]? = some (.cells #[.int .i64 (pre.length : Int)] 3 (0, 0))) ∧ J (K.numbered 0 pre) X ∧ W.heap.size + 5 ≤ X.heap.size)
      (fun c pre X => c = Code.ret ∧ Jx (K.numbered 0 pre) X) ?aI ?aIx ?a0 ?seq
      (fun x a' X => a' = ⟨#[.func (.yield l) #[] #[], .pointer (some ⟨Bq, 0, none⟩), .pointer (some ⟨W.heap.size, 0, none⟩), .pointer (some ⟨W.heap.size + 1, 0, none⟩), S x, S s, .func (.func 110) #[] #[.pointer (some ⟨W.heap.size + 2 + 1, 0, none⟩), .pointer (some ⟨W.heap.size + 2, 0, none⟩), .pointer (some ⟨W.heap.size + 2 + 1 + 1, 0, none⟩)], S x, undef, undef, undef, undef, undef, undef, undef, undef, undef, undef, undef], []⟩)
      (fun _ _ _ _ _ _ hs _ _ => hs) ?assign ?body ?done ?stop
  case aI =>
    intro pre A C row ⟨⟨h1, h2⟩, h3, h4⟩ hg hr
    have hsz := HS.out
    refine ⟨⟨hr.block hg h1 (fun e => by omega) (.inr rfl), hr.block hg h2 (fun e => by omega) (.inr rfl)⟩, (hJ.mono (by omega) (fun r e => .inr e)) _ A C row h3 hg hr, Nat.le_trans h4 hg.size⟩
  case aIx =>
    intro c pre A C row ⟨hc, h⟩ hg hr
    have hsz := HS.out
    exact ⟨hc, (hJx.mono (by omega) (fun r e => .inr e)) _ A C row h hg hr⟩
  case a0 => exact ⟨⟨hy1, hn1⟩, hJ.none h0 hB1, by have := HS.out; omega⟩
  case seq =>
    intro J2 Jx2 V hbV hsV hJ2 hJx2 hR h02
    have hlt := HS.out
    exact split_it (W1.heap.size + 1) (W.heap.size + 2) (K.pieces s).length s hl V (blk_under HA.out.1 hbV) (blk_under HA.out.2.1 hbV) (blk_under HA.out.2.2 hbV) J2 Jx2 hJ2 (Nat.le_refl _) hR h02
  case assign =>
    rintro l2 pre x X Kk hel hM0 ⟨⟨h1, h2⟩, h3, h4⟩ hK
    gi_wp2
    exact hK _ _ (KeepsFrom.refl _ _) (Kpn.refl _ _ _) ⟨⟨h1, h2⟩, h3, h4⟩ rfl
  case body =>
    rintro l2 pre x a' X hl2 ⟨r, hr⟩ hel hM0 ⟨⟨h1, h2⟩, h3, h4⟩ rfl hlt
    have hplen := K.pieces_len s
    have hNp : (K.numbered 0 pre).length < N := by have := K.numbered_len 0 pre; omega
    have hsz := HS.out
    have c1 := cell1 h2
    have f1 := free1 h2
    have lb := blk_lt h2
    obtain ⟨Y, hY0⟩ : ∃ Y, Y = X.setCell ⟨W.heap.size + 1, 0, none⟩ (.int .i64 ((pre.length : Int) + 1)) := ⟨_, rfl⟩
    have hy2 : Y.heap[W.heap.size + 1]? = some (.cells #[.int .i64 ((pre.length : Int) + 1)] 3 (0, 0)) := by rw [hY0]; exact heap_setCell_same X _ 0 _ 3 _ h2
    have hy1' : Y.heap[W.heap.size]? = some (.cells #[.func (.yield l) #[] #[]] 88 (0, 0)) := by rw [hY0]; exact (Below.heap_setCell X ⟨W.heap.size + 1, 0, none⟩ _ W.heap.size (by show W.heap.size ≠ W.heap.size + 1; omega)).trans h1
    have hJY : J (K.numbered 0 pre) Y := by
      rw [hY0]
      exact hJ _ X _ (some (W.heap.size + 1)) h3 (set_grown1 X _ 0 _) (fun r e => by injection e with e; subst e; exact .inl ⟨.inl rfl, _, _, h2, .inl rfl⟩)
    have hkY : KeepsFrom W1.heap.size X Y ∧ Kpn (W.heap.size + 2) 3 X Y := by rw [hY0]; exact ⟨kf_set _ _ _ _ _, Kpn.set _ _ _ (by omega)⟩
    have HY5 := Lib.hid (show W.heap.size + 5 ≤ Y.heap.size by rw [hY0]; simp [World.setCell]; exact h4)
    have hpl : (pre.length : Int) ≤ 100000 := by omega
    have HJ := Lib.hid (And.intro hJY hkY)
    have HY0 := Lib.hid hY0
    have HP := Lib.hid (show pre.length + 1 = (pre ++ [x]).length by simp)
    have HN2 := Lib.hid (K.numbered_snoc 0 pre x)
    have HS' := Lib.hid hsz
    clear hJY hkY hY0 hr hplen hN HA HS hB1 hsz hlt hy1 hn1 h0 hl2 hl
    have hsay := fun w => says_any x w
    obtain ⟨sy, hsy⟩ : ∃ b, K.says x = b := ⟨_, rfl⟩
    rw [hsy] at hsay
    have HSY := Lib.hid hsy
    clear hsy
    gi_upto_region 5 with (fail)
    rw [← HY0.out]
    cases sy with
    | false =>
      gi_wp2_with fail
      refine ⟨trivial, ?_⟩
      refine (callsIn_wide.2 (hsay _)).mono ?_
      rintro e w9 ⟨rfl, rfl⟩
      gi_wp2
      refine ⟨(fun _ h => by cases h), ?_⟩
      gi_wp2
      refine ⟨HJ.out.2.1, HJ.out.2.2, ⟨hy1', ?_⟩, ?_, HY5.out⟩
      · rw [← HP.out]; exact hy2
      · rw [HN2.out, HSY.out, if_neg (by decide), List.append_nil]; exact HJ.out.1
    | true =>
      obtain ⟨fn, tmps, assign, body, hyl, hR⟩ := hY (K.numbered 0 pre) (pre.length + 1, x) Y hel HY5.out HJ.out.1 hNp
      have cy := cell1 hy1'
      have cn := cell1 hy2
      have ly := blk_lt hy1'
      have ln := blk_lt hy2
      have hyl' : (Instr.yield l #[.int .i64 ((pre.length : Int) + 1), S x]).run Tryz.prog Y = .ok (.round l fn tmps assign body) Y := hyl
      have HYB := Lib.hid (And.intro hy1' hy2)
      clear hyl c1 f1 lb hy1' hy2
      gi_wp2_with fail
      refine ⟨trivial, ?_⟩
      refine (callsIn_wide.2 (hsay _)).mono ?_
      rintro e w9 ⟨rfl, rfl⟩
      gi_wp2
      refine (roundIn_any hR).mono ?_
      clear hR hyl'
      have hw1 := HS'.out
      rintro e W3 (⟨rfl, hJ3, hk3⟩ | ⟨rfl, hJx3, hk3⟩)
      · have g1 := hk3.1.2 _ _ _ _ (Nat.le_refl _) (by omega) (.inr (.inr rfl)) HYB.out.1
        have g2 := hk3.1.2 _ _ _ _ (by omega) (by omega) (.inl rfl) HYB.out.2
        have HK3 := Lib.hid (show KeepsFrom W1.heap.size X W3 ∧ Kpn (W.heap.size + 2) 3 X W3 from ⟨HJ.out.2.1.trans (kf_mono hk3.2 (by omega)), HJ.out.2.2.trans (hk3.1.sub (by omega) (by omega))⟩)
        have H3S := Lib.hid hk3.1.1
        clear hk3
        gi_wp2
        refine ⟨HK3.out.1, HK3.out.2, ⟨g1, ?_⟩, ?_, Nat.le_trans HY5.out H3S.out⟩
        · rw [← HP.out]; exact g2
        · rw [HN2.out, HSY.out, if_pos rfl, Nat.zero_add]; exact hJ3
      · have HK3 := Lib.hid (show KeepsFrom W1.heap.size X W3 ∧ Kpn (W.heap.size + 2) 3 X W3 from ⟨HJ.out.2.1.trans (kf_mono hk3.2 (by omega)), HJ.out.2.2.trans (hk3.1.sub (by omega) (by omega))⟩)
        clear hk3
        gi_wp2
        refine ⟨HK3.out.1, HK3.out.2, rfl, ?_⟩
        rw [HN2.out, HSY.out, if_pos rfl, Nat.zero_add]; exact hJx3
  case done =>
    rintro D xs X hD rfl ⟨⟨h1, h2⟩, h3, _⟩ hK
    have hb2 : J (K.linesOf s) (X.putObj D (.deferred none)) := hJ.own.putObj _ h3 (by have := HS.out; omega) hK rfl
    have HK := Lib.hid hK
    have HB2 := Lib.hid hb2
    clear hb2 h1 h2 h3 hK
    gi_wp2
    refine ⟨by simp, .inl ⟨_, _, rfl, run_takeDeferred HK.out, ?_⟩⟩
    exact ⟨_, results_none rfl _ _ _, ⟨_, rfl⟩, .inl ⟨_, rfl, HB2.out⟩⟩
  case stop =>
    rintro D c pre V hD ⟨suf, hsuf⟩ ⟨rfl, h⟩ hK
    have hb2 : Jx (K.numbered 0 pre) (V.putObj D (.deferred none)) := hJx.own.putObj _ h (by have := HS.out; omega) hK rfl
    have HK := Lib.hid hK
    have HB2 := Lib.hid hb2
    clear hb2 h hK
    gi_wp2
    refine ⟨by simp, .inl ⟨_, _, rfl, run_takeDeferred HK.out, ?_⟩⟩
    exact ⟨_, results_none rfl _ _ _, ⟨_, rfl⟩, .inr ⟨_, ⟨K.numbered (0 + pre.length) suf, by rw [← K.numbered_app, hsuf]; rfl⟩, HB2.out⟩⟩
end Go.Proofs.YtegobomfhdfodaaGreatDoor
