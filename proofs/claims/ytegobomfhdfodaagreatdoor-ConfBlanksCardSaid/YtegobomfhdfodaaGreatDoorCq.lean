/- CONF: THE WALK OVER quoted. -/
import Derived.Test.YtegobomfhdfodaaGreatDoorCbl
namespace Go.Proofs.YtegobomfhdfodaaGreatDoor
open Go.RowKit
set_option maxRecDepth 100000
set_option linter.unusedVariables false
set_option linter.unusedSimpArgs false

namespace K
/-- a byte of a quoted text, or two -/
def q1 (b : UInt8) (t : T) : Option (UInt8 × T) :=
  if ctl b.toNat then none
  else if b = 92 then
    match t with
    | [] => none
    | e :: r => (unesc e).map fun c => (c, r)
  else some (b, t)
/-- a quoted text behind its first quote: the text, and what is left -/
def qt : Nat → T → T → Option (T × T)
  | 0, _, _ => none
  | _ + 1, _, [] => none
  | f + 1, acc, b :: t =>
    if b = 34 then some (acc, t)
    else match q1 b t with
      | none => none
      | some x => qt f (acc ++ [x.1]) x.2
theorem q1_len {b : UInt8} {t r : T} {c : UInt8} (h : q1 b t = some (c, r)) : r.length ≤ t.length := by
  unfold q1 at h
  split at h
  · cases h
  · split at h
    · cases t with
      | nil => cases h
      | cons e t =>
        simp only at h
        cases hu : unesc e with
        | none => rw [hu] at h; cases h
        | some c' => rw [hu] at h; simp at h; rw [← h.2]; simp
    · injection h with h; injection h with h1 h2; rw [← h2]; exact Nat.le_refl _
end K
/-- how quoted ends -/
def QP (g : Nat) (w : World) (o : Option (K.T × K.T)) (e : Ending) (w' : World) : Prop :=
  match o with
  | some x => e = .returned (S x.1) ∧ Mv g x.2 w w'
  | none => e = pan 15 ∧ w.grownBy w' (some g)
theorem QP.some {g : Nat} {w w' : World} {e : Ending} {x r : K.T} (h1 : e = .returned (S x)) (h2 : Mv g r w w') : QP g w (Option.some (x, r)) e w' := ⟨h1, h2⟩
theorem QP.none {g : Nat} {w w' : World} {e : Ending} (h1 : e = pan 15) (h2 : w.grownBy w' (Option.some g)) : QP g w Option.none e w' := ⟨h1, h2⟩
theorem grown_behind {g B : Nat} {w w1 w2 : World} (h : w.grownBy w1 (some g)) (k : Below B w1 w2) (hB : w.heap.size ≤ B) : w.grownBy w2 (some g) :=
  ⟨k.os.trans h.os, k.tape.trans h.tape, k.output.trans h.output, Nat.le_trans h.size k.size, fun i hi hne => (k.block i (by omega)).trans (h.block i hi hne)⟩
/-- what the loop of quoted carries -/
structure QL (g : Nat) (w0 : World) (t acc : K.T) (W : World) : Prop where
  cur : Cur W g t
  bld : IsB w0.heap.size w0.heap.size acc W
  grown : w0.grownBy W (some g)
theorem QL.write {g : Nat} {w0 : World} {t acc acc' : K.T} {W W' : World} (h : QL g w0 t acc W) (hg : g < w0.heap.size) (hb : IsB w0.heap.size w0.heap.size acc' W') (hB : Below w0.heap.size W W') : QL g w0 t acc' W' :=
  ⟨(hB.block g hg).trans h.cur, hb, grown_behind h.grown hB (Nat.le_refl _)⟩
theorem QL.go {g : Nat} {w0 : World} {t t' acc : K.T} {W W' : World} (h : QL g w0 t acc W) (hg : g < w0.heap.size) (hm : Mv g t' W W') : QL g w0 t' acc W' :=
  ⟨hm.1, h.bld.kept hm.2 hg, h.grown.trans hm.2⟩
theorem str_any (B b : Nat) (l : K.T) (w : World) (h : IsB B b l w) (hBw : B ≤ w.heap.size) : Calls Tryz.prog 28 #[.pointer (some ⟨b, 0, none⟩)] w fun e w' => e = .returned (S l) ∧ Below B w w' := Tryz.Builder_String_any B b l w h hBw
set_option maxHeartbeats 4000000 in
theorem cu_quoted (w : World) (g : Nat) (t : K.T) (hc : Cur w g (34 :: t)) (hl : t.length ≤ 1000000000) :
    Calls Tryz.prog 90 #[.pointer (some ⟨g, 0, none⟩)] w (QP g w (K.qt (t.length + 1) [] t)) := by
  have Hl := Lib.hid hl
  clear hl
  obtain ⟨R, hR⟩ : ∃ R, K.qt (t.length + 1) [] t = R := ⟨_, rfl⟩
  rw [hR]
  have HR := Lib.hid hR
  clear hR
  go_enter Tryz.func90, Tryz.ntmps90
  go_wp2_with fail
  refine (cu_sign w g 34 t hc).mono ?_
  rintro e w1 ⟨rfl, hm⟩
  have hg1 := blk_lt hm.1
  obtain ⟨W, hW⟩ : ∃ W, W = w1.alloc (.cells #[.pointer none, .slice none 0 0] 56) := ⟨_, rfl⟩
  have hq : QL g w1 t [] W := by
    rw [hW]
    exact ⟨blk_alloc hm.1 _, IsB.new w1, below_grown ((Below.refl _ w1).alloc (Nat.le_refl _) _) _⟩
  have hsz : w1.heap.size < W.heap.size := by rw [hW]; simp
  have HW := Lib.hid hW
  have Hm := Lib.hid hm
  clear hW hm hc
  go_wp2_with fail
  rw [← HW.out]
  cases t with
  | nil =>
    refine (cu_next_no W g hq.cur).mono ?_
    rintro e w2 ⟨rfl, rfl⟩
    go_wp2
    have hn : R = none := by rw [← HR.out]; simp [K.qt]
    try rw [hn]
    exact ⟨rfl, QP.none rfl (Hm.out.2.trans hq.grown)⟩
  | cons b t =>
    refine (cu_next W g b t hq.cur).mono ?_
    rintro e w2 ⟨rfl, hm2⟩
    have hq2 := Lib.hid (hq.go hg1 hm2)
    clear hq hm2
    go_wp2
    go_loopg [4] (t.length + 2) (fun gf v wx => ∃ (c : UInt8) (s acc : K.T), v = .int .u8 (c.toNat : Int) ∧ QL g w1 s acc wx ∧ s.length + 1 < gf ∧ acc.length + s.length ≤ 1000000000 ∧ K.qt gf acc (c :: s) = R)
    case atStart => exact ⟨b, t, [], rfl, hq2.out, by omega, by have := Hl.out; simp at this ⊢; omega, HR.out⟩
    case round =>
      obtain ⟨c, s, acc, rfl, hql, hfu, hmx, hqt⟩ := hrel
      obtain ⟨k, rfl⟩ : ∃ k, gk = k + 1 := ⟨gk - 1, by omega⟩
      have hcb : c.toNat < 256 := c.toNat_lt
      have hgs := hql.grown.size
      by_cases h34 : c = 34
      · subst h34
        have hR' : R = some (acc, s) := by rw [← hqt]; simp [K.qt]
        have HQL := Lib.hid hql
        have hbl := hql.bld
        clear hql hqt
        go_wp2_with fail
        refine (str_any w1.heap.size w1.heap.size acc wr hbl hgs).mono ?_
        rintro e w3 ⟨rfl, hb⟩
        go_wp2
        go_ret
        try rw [hR']
        exact QP.some rfl ⟨(hb.block g hg1).trans HQL.out.cur, Hm.out.2.trans (grown_behind HQL.out.grown hb (Nat.le_refl _))⟩
      · have hne : ((c.toNat : Int) == 34) = false := by
          simp only [beq_eq_false_iff_ne, ne_eq]
          intro e
          exact h34 (UInt8.toNat_inj.1 (by show c.toNat = 34; omega))
        simp only [K.qt, if_neg h34] at hqt
        cases hctl : K.ctl c.toNat with
        | true =>
          have hR' : R = none := by rw [← hqt]; simp [K.q1, hctl]
          have hcc := ctl_any c.toNat wr
          rw [hctl] at hcc
          have HQL := Lib.hid hql
          clear hql hqt
          go_wp2_with (go_at_call 77; refine hcc.mono ?_; rintro e w3 ⟨rfl, rfl⟩)
          refine (unless_no 15 wr).mono ?_
          rintro e w3 ⟨rfl, rfl⟩
          go_wp2
          try rw [hR']
          exact ⟨rfl, QP.none rfl (Hm.out.2.trans HQL.out.grown)⟩
        | false =>
          have hcc := ctl_any c.toNat wr
          rw [hctl] at hcc
          have HQL := Lib.hid hql
          have HQT := Lib.hid hqt
          clear hql hqt
          go_wp2_with (go_at_call 77; refine hcc.mono ?_; rintro e w3 ⟨rfl, rfl⟩)
          refine (unless_yes 15 wr).mono ?_
          rintro e w3 ⟨rfl, rfl⟩
          have hql := HQL.out
          have hqt := HQT.out
          by_cases h92 : c = 92
          · subst h92
            have hctl' : K.ctl 92 = false := hctl
            cases s with
            | nil =>
              have hR' : R = none := by rw [← hqt]; simp [K.q1, hctl']
              have hcu := hql.cur
              clear hql hqt
              go_wp2_with fail
              refine (cu_next_no wr g hcu).mono ?_
              rintro e w3 ⟨rfl, rfl⟩
              go_wp2
              try rw [hR']
              exact ⟨rfl, QP.none rfl (Hm.out.2.trans HQL.out.grown)⟩
            | cons e0 s =>
              have hcu := hql.cur
              clear hql hqt
              go_wp2_with fail
              refine (cu_next wr g e0 s hcu).mono ?_
              rintro e w3 ⟨rfl, hmv⟩
              have hql := HQL.out.go hg1 hmv
              have hqt := HQT.out
              have HQ2 := Lib.hid hql
              clear hmv hql hcu
              cases hu : K.unesc e0 with
              | none =>
                have hR' : R = none := by rw [← hqt]; simp [K.q1, hctl', hu]
                clear hqt
                go_wp2_with fail
                refine (unesc_no e0 hu w3).mono ?_
                rintro e w4 ⟨rfl, rfl⟩
                go_wp2
                try rw [hR']
                exact ⟨rfl, QP.none rfl (Hm.out.2.trans HQ2.out.grown)⟩
              | some c1 =>
                have hqt : K.qt k (acc ++ [c1]) s = R := by rw [← hqt]; simp [K.q1, hctl', hu]
                have HQT2 := Lib.hid hqt
                clear hqt
                go_wp2_with fail
                refine (unesc_yes e0 c1 hu w3).mono ?_
                rintro e w4 ⟨rfl, rfl⟩
                have hqt := HQT2.out
                have hql := HQ2.out
                have hmx : acc.length + s.length + 1 ≤ 1000000000 := by simp at hmx; omega
                have hfu : s.length + 1 < k := by simp at hfu; omega
                go_wp2_with fail
                have hwb := hql.bld
                refine (write_byte w1.heap.size w1.heap.size acc c1 _ hwb (by omega) hql.grown.size).mono ?_
                rintro e x1 ⟨rfl, hib, hbb⟩
                have hq3 := hql.write hg1 hib hbb
                cases s with
                | nil =>
                  have hR' : R = none := by
                    rw [← hqt]
                    cases k with
                    | zero => omega
                    | succ k => rfl
                  go_wp2_with fail
                  refine (cu_next_no x1 g hq3.cur).mono ?_
                  rintro e x2 ⟨rfl, rfl⟩
                  go_wp2
                  try rw [hR']
                  exact ⟨rfl, QP.none rfl (Hm.out.2.trans hq3.grown)⟩
                | cons d u =>
                  have HQ3 := Lib.hid hq3
                  have hcu := hq3.cur
                  clear hq3 hib hbb hwb
                  go_wp2_with fail
                  refine (cu_next x1 g d u hcu).mono ?_
                  rintro e x2 ⟨rfl, hmv⟩
                  have hq4 := HQ3.out.go hg1 hmv
                  have HQ4 := Lib.hid hq4
                  clear hq4 hmv hcu
                  go_wp2
                  go_roundg k
                  case measure => omega
                  case rel => exact ⟨d, u, acc ++ [c1], rfl, HQ4.out, by simp at hfu ⊢; omega, by simp at hmx ⊢; omega, hqt⟩
          · have hne92 : ((c.toNat : Int) == 92) = false := by
              simp only [beq_eq_false_iff_ne, ne_eq]
              intro e
              exact h92 (UInt8.toNat_inj.1 (by show c.toNat = 92; omega))
            have hqt : K.qt k (acc ++ [c]) s = R := by rw [← hqt]; simp [K.q1, hctl, h92]
            go_wp2_with fail
            have hwb := hql.bld
            refine (write_byte w1.heap.size w1.heap.size acc c _ hwb (by omega) hql.grown.size).mono ?_
            rintro e x1 ⟨rfl, hib, hbb⟩
            have hq3 := hql.write hg1 hib hbb
            cases s with
            | nil =>
              have hR' : R = none := by
                rw [← hqt]
                cases k with
                | zero => omega
                | succ k => rfl
              go_wp2_with fail
              refine (cu_next_no x1 g hq3.cur).mono ?_
              rintro e x2 ⟨rfl, rfl⟩
              go_wp2
              try rw [hR']
              exact ⟨rfl, QP.none rfl (Hm.out.2.trans hq3.grown)⟩
            | cons d u =>
              have HQ3 := Lib.hid hq3
              have hcu := hq3.cur
              clear hq3 hib hbb hwb
              go_wp2_with fail
              refine (cu_next x1 g d u hcu).mono ?_
              rintro e x2 ⟨rfl, hmv⟩
              have hq4 := HQ3.out.go hg1 hmv
              have HQ4 := Lib.hid hq4
              clear hq4 hmv hcu
              go_wp2
              go_roundg k
              case measure => omega
              case rel => exact ⟨d, u, acc ++ [c], rfl, HQ4.out, by simp at hfu ⊢; omega, by simp at hmx ⊢; omega, hqt⟩
end Go.Proofs.YtegobomfhdfodaaGreatDoor
