/- CONF: THE WALK OVER list. -/
import Derived.Test.YtegobomfhdfodaaGreatDoorCd
namespace Go.Proofs.YtegobomfhdfodaaGreatDoor
open Go.RowKit
set_option maxRecDepth 100000
set_option linter.unusedVariables false
set_option linter.unusedSimpArgs false

namespace K
/-- the items behind the first one, up to the bracket -/
def itemsF : Nat → List T → T → Option (List T × T)
  | 0, _, _ => none
  | f + 1, acc, l =>
    if l.head? = some 44 then
      match item l.tail with
      | none => none
      | some x => itemsF f (acc ++ [x.1]) x.2
    else if l.head? = some 93 then some (acc, l.tail) else none
/-- a list behind its bracket -/
def list (t : T) : Option (List T × T) :=
  if (bare t).head? = some 93 then some ([], (bare t).tail)
  else match item (bare t) with
    | none => none
    | some x => itemsF (x.2.length + 1) [x.1] x.2
end K
/-- texts in a row of the call's own -/
def Txs (base : Nat) (v : Value) (ss : List K.T) (w : World) : Prop := w.ownsRow base 9 1 v ss.length (ss.map S)
/-- how list ends -/
def LP (g : Nat) (w : World) (o : Option (List K.T × K.T)) (e : Ending) (w' : World) : Prop :=
  match o with
  | some x => ∃ v, e = .returned v ∧ Mv g x.2 w w' ∧ Txs w.heap.size v x.1 w'
  | none => e = pan 15 ∧ w.grownBy w' (some g)
theorem LP.some {g : Nat} {w w' : World} {e : Ending} {v : Value} {ss : List K.T} {r : K.T} (h1 : e = .returned v) (h2 : Mv g r w w') (h3 : Txs w.heap.size v ss w') : LP g w (Option.some (ss, r)) e w' := ⟨v, h1, h2, h3⟩
theorem LP.none {g : Nat} {w w' : World} {e : Ending} (h1 : e = pan 15) (h2 : w.grownBy w' (Option.some g)) : LP g w Option.none e w' := ⟨h1, h2⟩
theorem Txs.kept {base g : Nat} {v : Value} {ss : List K.T} {w w' : World} (h : Txs base v ss w) (hg : w.grownBy w' (some g)) (hlt : g < base) : Txs base v ss w' := by
  refine World.ownsRow.kept h hg ?_
  cases hv : v.ownBlock with
  | none => exact .inl rfl
  | some k => exact .inr (fun e => by injection e with e; have := (World.ownsRow.lt h k hv).1; omega)
theorem Txs.one (w : World) (base : Nat) (hb : base ≤ w.heap.size) (x : K.T) : Txs base (.slice (some ⟨w.heap.size, 0, none⟩) 1 1) [x] (w.alloc (.cells #[S x] 9)) := by
  unfold Txs
  have := World.ownsRow_lit (base := base) (e := 9) (size := 1) w #[S x] 1 hb (by unfold maxLen; omega) rfl
  exact this
theorem Tryz.info9 : (Tryz.prog.info? 9).map (fun i => (i.zero, i.size, i.bytes)) = some (some (.string ⟨#[]⟩), 1, 16) := by kernel_rfl
/-- what the loop of list carries -/
structure LL (g : Nat) (w0 : World) (l : K.T) (v : Value) (ss : List K.T) (W : World) : Prop where
  cur : Cur W g l
  row : Txs w0.heap.size v ss W
  grown : w0.grownBy W (some g)
theorem LL.go {g : Nat} {w0 : World} {l l' : K.T} {v : Value} {ss : List K.T} {W W' : World} (h : LL g w0 l v ss W) (hg : g < w0.heap.size) (hm : Mv g l' W W') : LL g w0 l' v ss W' :=
  ⟨hm.1, h.row.kept hm.2 hg, h.grown.trans hm.2⟩
set_option maxHeartbeats 4000000 in
theorem cu_list (w : World) (g : Nat) (t : K.T) (hc : Cur w g (91 :: t)) (hl : t.length ≤ 1000000) (hT : Tb w) (hg : 4 < g) :
    Calls Tryz.prog 91 #[.pointer (some ⟨g, 0, none⟩)] w (LP g w (K.list t)) := by
  obtain ⟨i0, hi, hz0, hz1, hz2⟩ := info_parts Tryz.info9
  obtain ⟨R, hR⟩ : ∃ R, K.list t = R := ⟨_, rfl⟩
  rw [hR]
  have HR := Lib.hid hR
  have HT := Lib.hid hT
  have hlt := blk_lt hc
  have hcs := cu_sign w g 91 t hc
  have hbl := K.bare_len t
  have HB := Lib.hid hbl
  have Hl := Lib.hid hl
  clear hR hT hc hbl hl
  go_enter Tryz.func91, Tryz.ntmps91
  go_wp2_with fail
  refine hcs.mono ?_
  rintro e w1 ⟨rfl, hm1⟩
  have hsp := cu_spaces w1 g t (by have := Hl.out; omega) hm1.1
  have HM1 := Lib.hid hm1
  clear hm1 hcs
  go_wp2_with fail
  refine hsp.mono ?_
  rintro e w2 ⟨rfl, hm2⟩
  have HM2 := Lib.hid (show Mv g (K.bare t) w w2 from HM1.out.trans hm2)
  clear hm2 hsp
  unfold K.list at HR
  have hul : (K.bare t).length ≤ 1000000 := by have := Hl.out; have := HB.out; omega
  obtain ⟨u, hu⟩ : ∃ u, K.bare t = u := ⟨_, rfl⟩
  rw [hu] at HR HM2 hul
  clear hu HB
  have hat := cu_at w2 g u 93 HM2.out.1
  by_cases h93 : u.head? = some 93
  · cases u with
    | nil => cases h93
    | cons x u =>
      obtain rfl : x = 93 := by simpa using h93
      have hR' : R = some ([], u) := by rw [← HR.out, if_pos h93]; rfl
      rw [show ((93 :: u : K.T).head? == some 93) = true from by simp] at hat
      have hs := cu_sign w2 g 93 u HM2.out.1
      go_wp2_with (go_at_call 57; refine hat.mono ?_; rintro e w3 ⟨rfl, rfl⟩)
      refine hs.mono ?_
      rintro e w3 ⟨rfl, hm3⟩
      go_wp2
      go_ret
      try rw [hR']
      exact LP.some rfl (HM2.out.trans hm3) (World.ownsRow_nil _ _ _ _)
  · rw [show (u.head? == some 93) = false from by simp [h93]] at hat
    have hit := cu_item w2 g u HM2.out.1 (by omega) (HT.out.mv HM2.out.2 hg) hg
    go_wp2_with (go_at_call 57; refine hat.mono ?_; rintro e w3 ⟨rfl, rfl⟩)
    refine hit.mono ?_
    intro e w3 hQ
    cases hI : K.item u with
    | none =>
      rw [hI] at hQ
      obtain ⟨rfl, hgr⟩ := hQ
      have hR' : R = none := by rw [← HR.out, if_neg h93, hI]
      go_wp2
      try rw [hR']
      exact ⟨rfl, LP.none rfl (HM2.out.2.trans hgr)⟩
    | some x =>
      obtain ⟨x, r⟩ := x
      rw [hI] at hQ
      obtain ⟨rfl, hm3⟩ := hQ
      have hrl := K.item_len hI
      have hR' : K.itemsF (r.length + 1) [x] r = R := by rw [← HR.out, if_neg h93, hI]
      obtain ⟨W, hW⟩ : ∃ W, W = w3.alloc (.cells #[S x] 9) := ⟨_, rfl⟩
      have hsz : w.heap.size ≤ w3.heap.size := (HM2.out.2.trans hm3.2).size
      have hLL : LL g w r (.slice (some ⟨w3.heap.size, 0, none⟩) 1 1) [x] W := by
        rw [hW]
        exact ⟨blk_alloc hm3.1 _, Txs.one w3 _ hsz x, (HM2.out.2.trans hm3.2).trans (below_grown ((Below.refl _ w3).alloc (Nat.le_refl _) _) _)⟩
      have HW := Lib.hid hW
      have HL := Lib.hid hLL
      have HR2 := Lib.hid hR'
      have HUL := Lib.hid hul
      clear hW hLL hm3 hR' hit hat hul
      go_wp2
      rw [← HW.out]
      go_loopg [3] (r.length + 1) (fun gf v wx => ∃ (ss : List K.T) (l : K.T), LL g w l v ss wx ∧ l.length < gf ∧ ss.length + l.length ≤ 1000001 ∧ K.itemsF gf ss l = R)
      case atStart => exact ⟨[x], r, HL.out, by omega, by have := HUL.out; simp; omega, HR2.out⟩
      case round =>
        obtain ⟨ss, l, hLL, hfu, hmx, hit⟩ := hrel
        obtain ⟨k, rfl⟩ : ∃ k, gk = k + 1 := ⟨gk - 1, by omega⟩
        have hat := cu_at wr g l 44 hLL.cur
        have HL := Lib.hid hLL
        have HX := Lib.hid hmx
        clear hLL hmx
        unfold K.itemsF at hit
        by_cases h44 : l.head? = some 44
        · rw [if_pos h44] at hit
          cases l with
          | nil => cases h44
          | cons y l =>
            obtain rfl : y = 44 := by simpa using h44
            rw [show ((44 :: l : K.T).head? == some 44) = true from by simp] at hat
            have hs := cu_sign wr g 44 l HL.out.cur
            have HI := Lib.hid hit
            clear hit
            go_wp2_with (go_at_call 57; refine hat.mono ?_; rintro e w4 ⟨rfl, rfl⟩)
            refine hs.mono ?_
            rintro e w4 ⟨rfl, hm4⟩
            have HL4 := Lib.hid (HL.out.go hlt hm4)
            clear hm4 hs hat
            have hil := cu_item w4 g l HL4.out.cur (by have := HX.out; simp at this; omega) (HT.out.mv HL4.out.grown hg) hg
            go_wp2_with fail
            refine hil.mono ?_
            intro e w5 hQ
            have hit := HI.out
            simp only [List.tail_cons] at hit
            cases hI2 : K.item l with
            | none =>
              rw [hI2] at hQ hit
              obtain ⟨rfl, hgr⟩ := hQ
              have hR' : R = none := hit.symm
              clear hit
              go_wp2
              try rw [hR']
              exact ⟨rfl, LP.none rfl (HL4.out.grown.trans hgr)⟩
            | some z =>
              obtain ⟨z, r2⟩ := z
              rw [hI2] at hQ hit
              obtain ⟨rfl, hm5⟩ := hQ
              have hrl2 := K.item_len hI2
              have HL5 := Lib.hid (HL4.out.go hlt hm5)
              have HIT := Lib.hid hit
              have hown := HL5.out.row
              have hszw := HL5.out.grown.size
              clear hm5 hit hil HI
              unfold Txs at hown
              have HX' := Lib.hid (show ss.length + l.length ≤ 1000000 from by have := HX.out; simp at this; omega)
              have hfu' : l.length < k := by simp at hfu; omega
              go_wp2_with (at_builtin; refine wpList_append_own _ rfl _ _ 29 rfl w.heap.size 9 i0 (.string ⟨#[]⟩) 1 16 Tryz.underlying29 hi hz0 hz1 hz2 rfl (by decide) _ _ _ rfl (hown.alloc _) ⟨w5.heap.size, 0, none⟩ 1 1 [S z] rfl rfl ?c1 ?c2 ?c3 ?c4 ?c5 ?_)
              case c1 =>
                intro j q hj
                match j, hj with
                | 0, hj => simp at hj; subst hj; simp [Addr.add]
              case c2 => intro q hq; simp at hq; subst hq; rfl
              case c3 => have := HX'.out; unfold maxLen; omega
              case c4 => have := HX'.out; omega
              case c5 => rw [World.size_alloc]; omega
              intro v' w6 hown' hgrow _
              have hcu6 : Cur w6 g r2 := by
                have hb1 : (w5.alloc (.cells #[S z] 9)).heap[g]? = some (.cells #[S r2] 99 (0, 0)) := blk_alloc HL5.out.cur _
                refine (hgrow.block g (blk_lt hb1) ?_).trans hb1
                intro e
                have := (World.ownsRow.lt hown g e.symm).1
                omega
              have hg6 : w.grownBy w6 (some g) := by
                have h1 := HL5.out.grown.trans (below_grown ((Below.refl _ w5).alloc (Nat.le_refl _) (.cells #[S z] 9)) (some g))
                refine ⟨hgrow.os.trans h1.os, hgrow.tape.trans h1.tape, hgrow.output.trans h1.output, Nat.le_trans h1.size hgrow.size, fun i hi hne => ?_⟩
                refine (hgrow.block i (Nat.lt_of_lt_of_le hi h1.size) ?_).trans (h1.block i hi hne)
                intro e
                have := (World.ownsRow.lt hown i e.symm).1
                omega
              have hL6 : LL g w r2 v' (ss ++ [z]) w6 := ⟨hcu6, by unfold Txs; simpa using hown', hg6⟩
              have HL6 := Lib.hid hL6
              clear hL6 hg6 hcu6 hgrow hown' hown
              go_wp2
              go_roundg k
              case measure => omega
              case rel => exact ⟨ss ++ [z], r2, HL6.out, by omega, by have := HX'.out; simp; omega, HIT.out⟩
        · rw [if_neg h44] at hit
          rw [show (l.head? == some 44) = false from by simp [h44]] at hat
          cases l with
          | nil =>
            have hR' : R = none := by rw [← hit]; rfl
            have hs := cu_sign_no wr g 93 HL.out.cur
            clear hit
            go_wp2_with (go_at_call 57; refine hat.mono ?_; rintro e w4 ⟨rfl, rfl⟩)
            refine hs.mono ?_
            rintro e w4 ⟨rfl, rfl⟩
            go_wp2
            try rw [hR']
            exact ⟨rfl, LP.none rfl HL.out.grown⟩
          | cons y l =>
            by_cases hy : y = 93
            · subst hy
              have hR' : R = some (ss, l) := by rw [← hit]; rfl
              have hs := cu_sign wr g 93 l HL.out.cur
              clear hit
              go_wp2_with (go_at_call 57; refine hat.mono ?_; rintro e w4 ⟨rfl, rfl⟩)
              refine hs.mono ?_
              rintro e w4 ⟨rfl, hm4⟩
              have HL4 := Lib.hid (HL.out.go hlt hm4)
              clear hm4 hs hat
              go_wp2
              go_ret
              try rw [hR']
              exact LP.some rfl ⟨HL4.out.cur, HL4.out.grown⟩ HL4.out.row
            · have hR' : R = none := by rw [← hit, if_neg (by simp [hy])]
              have hs := cu_sign_bad wr g y 93 l hy HL.out.cur
              clear hit
              go_wp2_with (go_at_call 57; refine hat.mono ?_; rintro e w4 ⟨rfl, rfl⟩)
              refine hs.mono ?_
              rintro e w4 ⟨rfl, hm4⟩
              go_wp2
              try rw [hR']
              exact ⟨rfl, LP.none rfl (HL.out.grown.trans hm4.2)⟩
end Go.Proofs.YtegobomfhdfodaaGreatDoor
