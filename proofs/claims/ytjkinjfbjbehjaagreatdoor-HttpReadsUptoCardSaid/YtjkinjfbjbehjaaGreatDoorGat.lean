/- HTTP: THE WALK OVER HttpFinds. -/
import Derived.Test.YtjkinjfbjbehjaaGreatDoorGas
import Derived.Laws.BytesString
namespace Go.Proofs.YtjkinjfbjbehjaaGreatDoor
open Go.RowKit
set_option maxRecDepth 100000
set_option linter.unusedVariables false
set_option linter.unusedSimpArgs false

/-- bytes in a block of one's own -/
def Byt (w : World) (g : Nat) (l : H.T) : Prop := ∃ (cur : Array Value) (m : Nat), w.heap[g]? = some (.cells cur 5 (m, m + 1)) ∧ cur.size = m ∧ l.length ≤ m ∧ ∀ j (hj : j < l.length), cur[j]? = some (.int .u8 (l[j].toNat : Int))
theorem Byt.lt {w : World} {g : Nat} {l : H.T} (h : Byt w g l) : g < w.heap.size := by obtain ⟨cur, m, h1, _⟩ := h; exact blk_lt h1
theorem Byt.under {w w' : World} {g : Nat} {l : H.T} (h : Byt w g l) (hb : Below w.heap.size w w') : Byt w' g l := by
  obtain ⟨cur, m, h1, h2⟩ := h
  exact ⟨cur, m, blk_under h1 hb, h2⟩
theorem Byt.cell {w : World} {g : Nat} {l : H.T} (h : Byt w g l) (j : Nat) (hj : j < l.length) : w.cell? ⟨g, j, none⟩ = some (.int .u8 (l[j].toNat : Int)) := by
  obtain ⟨cur, m, h1, h2, h3, h4⟩ := h
  have := h4 j hj
  simp only [World.cell?, h1]
  first | exact this | simpa using this
theorem Byt.free {w : World} {g : Nat} {l : H.T} (h : Byt w g l) (j : Nat) (hj : j < l.length) : w.frozen? ⟨g, j, none⟩ = false := by
  obtain ⟨cur, m, h1, h2, h3, h4⟩ := h
  simp only [World.frozen?, h1]
  have : ¬ m ≤ j := by omega
  simp [this]
theorem Byt.set {w : World} {g : Nat} {l : H.T} (h : Byt w g l) (j : Nat) (c : UInt8) (hj : j < l.length) : Byt (w.setCell ⟨g, j, none⟩ (.int .u8 (c.toNat : Int))) g (l.set j c) := by
  obtain ⟨cur, m, h1, h2, h3, h4⟩ := h
  refine ⟨cur.setIfInBounds j (.int .u8 (c.toNat : Int)), m, ?_, by simp [h2], by simp; exact h3, fun i hi => ?_⟩
  · simp [World.setCell, Array.getElem?_modify, h1]
  · simp only [List.length_set] at hi
    have := h4 i hi
    rw [Array.getElem?_setIfInBounds, List.getElem_set]
    split
    · rename_i e
      rw [if_pos (by omega)]
    · exact this
theorem conv_own (w : World) (l : H.T) : ∃ (C : Nat) (w1 : World), (convert 9 47 (S l)).run Tryz.prog w = .ok (.slice (some ⟨w.heap.size, 0, none⟩) l.length C) w1 ∧ Below w.heap.size w w1 ∧ Byt w1 w.heap.size l := by
  have h := run_bytes_of_string (P := Tryz.prog) w 9 47 5 ⟨l.toArray⟩ Tryz.underlying9 Tryz.underlying47 Tryz.underlying5
  have hs : (ByteArray.mk l.toArray).size = l.length := by simp [ByteArray.size]
  rw [hs] at h
  refine ⟨_, _, h, ((Below.refl _ w).drew).alloc (Nat.le_refl _) _, ?_⟩
  refine ⟨bytesRow ⟨l.toArray⟩ (grownCap w l.length 0 5), _, ?_, rfl, ?_, fun j hj => ?_⟩
  · exact heap_alloc_new w.drew _
  · rcases Nat.eq_zero_or_pos l.length with e | e
    · omega
    · have := (Array.getElem?_eq_some_iff.1 (bytesRow_at (⟨l.toArray⟩ : ByteArray) (grownCap w l.length 0 5) (l.length - 1) (by simp; omega))).1
      omega
  · rw [bytesRow_at _ _ j (by simpa using hj)]
    simp
theorem back_own (w : World) (g : Nat) (l : H.T) (cap : Nat) (h : Byt w g l) : (convert 47 9 (.slice (some ⟨g, 0, none⟩) l.length cap)).run Tryz.prog w = .ok (S l) w :=
  run_convert_bytes_back w 47 9 5 ⟨g, 0, none⟩ cap l Tryz.underlying47 Tryz.underlying5 Tryz.underlying9 (fun j hj => by
    have e : (Addr.add ⟨g, 0, none⟩ j) = ⟨g, j, none⟩ := by simp [Addr.add] <;> omega
    rw [e]
    exact h.cell j hj)
theorem H.up_at (l : H.T) (j : Nat) (hj : j < l.length) : ((l.take j).map H.up ++ l.drop j).set j (H.up l[j]) = (l.take (j + 1)).map H.up ++ l.drop (j + 1) := by
  rw [List.set_append_right _ _ (by simp [List.length_take]; omega)]
  rw [List.drop_eq_getElem_cons hj]
  have e : j - ((l.take j).map H.up).length = 0 := by simp [List.length_take]; omega
  have e2 : l.take (j + 1) = l.take j ++ [l[j]] := by rw [List.take_add_one, List.getElem?_eq_getElem hj]; rfl
  rw [e, List.set_cons_zero, e2, List.map_append, List.append_assoc]
  rfl
theorem H.up_get (l : H.T) (j : Nat) (hj : j < l.length) : ((l.take j).map H.up ++ l.drop j)[j]'(by simp [List.length_take, List.length_drop]; omega) = l[j] := by
  rw [List.getElem_append_right (by simp [List.length_take]; omega)]
  simp [List.length_take, Nat.min_eq_left (Nat.le_of_lt hj)]
theorem H.findO_up (hs : List H.Hd) (n : H.T) : H.findO hs (n.map H.up) = H.findO hs n := by
  unfold H.findO
  have : (fun h : H.Hd => H.alike h.name (n.map H.up)) = (fun h : H.Hd => H.alike h.name n) := by funext h; exact H.alike_up _ _
  rw [this]
/-- what holds all the way through -/
structure Fw (w0 : World) (g : Nat) (box : Array Value) (q : H.Rq) (ad : Option Addr) (W : World) : Prop where
  bel : Below w0.heap.size w0 W
  box : W.heap[g]? = some (.cells box 24 (0, 0))
  q : RqIn W ad q
  t : Tabs W
theorem Fw.under {w0 : World} {g : Nat} {box : Array Value} {q : H.Rq} {ad : Option Addr} {W W' : World} (h : Fw w0 g box q ad W) (hb : Below W.heap.size W W') : Fw w0 g box q ad W' := ⟨h.bel.trans (hb.mono h.bel.size), blk_under h.box hb, h.q.under hb, h.t.under hb⟩
set_option maxHeartbeats 8000000 in
theorem finds_case (w : World) (q : H.Rq) (ad : Option Addr) (cap : Nat) (hq : RqIn w ad q) (name : H.T) (hn : name.length ≤ 140737488355000) (hT : Tabs w) (fv : H.T) (fb : Bool) (hfo : H.findO q.hs name = (fv, fb)) (hfb : fb = false → fv = []) :
    Calls Tryz.prog 8 #[.agg #[S q.method, S q.target, .slice ad q.hs.length cap, S q.body], S name] w fun e w' => e = .returned (.bool true) ∧ Below w.heap.size w w' := by
  obtain ⟨X, hX⟩ : ∃ X, X = w.alloc (.cells #[S q.method, S q.target, .slice ad q.hs.length cap, S q.body] 24) := ⟨_, rfl⟩
  have hbX : Below w.heap.size w X := by rw [hX]; exact (Below.refl _ w).alloc (Nat.le_refl _) _
  have F0 := Lib.hid (show Fw w w.heap.size #[S q.method, S q.target, .slice ad q.hs.length cap, S q.body] q ad X from ⟨hbX, by rw [hX]; exact blk_new w _, hq.under hbX, hT.under hbX⟩)
  have hwq := fun W (h : RqIn W ad q) hT => writeReq_any W q ad cap h hT
  have hf := fun W (h : RqIn W ad q) => find_any W q.hs name ad cap h.hds h.big h.many
  have hu := fun W (h : RqIn W ad q) => find_any W q.hs (name.map H.up) ad cap h.hds h.big h.many
  rw [H.findO_up] at hu
  rw [hfo] at hf hu
  have Hfo := Lib.hid hfo
  have HF := Lib.hid hf
  have HU := Lib.hid hu
  have Hml := Lib.hid (show (name.map H.up).length = name.length by simp)
  obtain ⟨z, hz⟩ : ∃ z : Int, ((name.length : Nat) : Int) = z := ⟨_, rfl⟩
  clear hT hq hbX hf hu hfo
  cases fb with
  | false =>
    have hfv := hfb rfl
    subst hfv
    clear hfb
    rcases H.writeReq_cases q with h1 | ⟨h1, hm1, hl1, hb1⟩
    · rw [h1] at hwq
      have HWQ := Lib.hid hwq
      clear hwq h1
      go_enter Tryz.func8, Tryz.ntmps8
      go_upto_region 1 with (fail)
      rw [← hX]
      clear hX
      go_wp2_with fail
      refine (lives_any X F0.out.t).mono ?_
      rintro e w1 ⟨rfl, hb1⟩
      have F1 := Lib.hid (F0.out.under hb1)
      clear hb1
      obtain ⟨C, w2, hcv, hb2, hby⟩ := conv_own w1 name
      have F2 := Lib.hid (F1.out.under hb2)
      have HB := Lib.hid hby
      have hgl := hby.lt
      obtain ⟨g, hg⟩ : ∃ g, w1.heap.size = g := ⟨_, rfl⟩
      have Hg := Lib.hid hg
      rw [hg] at hcv HB hgl
      have H12 := Lib.hid (hg ▸ hb2)
      have Hw1 := Lib.hid F1.out
      clear hb2 hby hg
      go_wp2
      clear hcv
      go_loopw [25] (fun u wr => ∃ j : Nat, u = .int .i64 (j : Int) ∧ j ≤ name.length ∧ Byt wr g ((name.take j).map H.up ++ name.drop j) ∧ Below g w1 wr) (fun u _ => name.length - (intOf u).toNat)
      case atStart => exact ⟨0, rfl, Nat.zero_le _, by simpa using HB.out, H12.out⟩
      case round =>
        obtain ⟨j, rfl, hj, hbt, hbw⟩ := hrel
        have Hbt := Lib.hid hbt
        have Hbw := Lib.hid hbw
        have hlg := hbt.lt
        clear hbt hbw
        by_cases hlt : j < name.length
        · have hjz : (j : Int) < z := by omega
          have hlen : j < ((name.take j).map H.up ++ name.drop j).length := by simp [List.length_take, List.length_drop]; omega
          have hc := Hbt.out.cell j hlen
          rw [H.up_get name j hlt] at hc
          have hf := Hbt.out.free j hlen
          obtain ⟨c, hcc⟩ : ∃ c : Nat, name[j].toNat = c := ⟨_, rfl⟩
          have hc255 : c < 256 := by rw [← hcc]; exact name[j].toNat_lt
          have Hup := Lib.hid (H.up_at name j hlt)
          have Hset := Lib.hid (Hbt.out.set j (H.up name[j]) hlen)
          have Hcc := Lib.hid hcc
          have Hlen := Lib.hid hlen
          rw [hcc] at hc
          clear hcc hlen
          by_cases h1 : 97 ≤ c
          · have h1' : (97 : Int) ≤ (c : Int) := by omega
            by_cases h2 : c ≤ 122
            · have h2' : (c : Int) ≤ 122 := by omega
              have hw : IntKind.u8.wrap ((c : Int) - 32) = (c : Int) - 32 := by rw [IntKind.wrap_u8]; omega
              have hu : ((H.up name[j]).toNat : Int) = (c : Int) - 32 := by
                unfold H.up
                rw [Hcc.out, if_pos ⟨h1, h2⟩]
                have : (name[j] - 32).toNat = name[j].toNat - 32 := by rw [UInt8.toNat_sub_of_le]; rfl; rw [UInt8.le_iff_toNat_le]; show 32 ≤ name[j].toNat; have := Hcc.out; omega
                rw [this, Hcc.out]; omega
              have hset := Hset.out
              rw [Hup.out, hu] at hset
              have Hs2 := Lib.hid hset
              clear hset hu
              go_wp2
              go_roundw
              case rel => exact ⟨j + 1, by go_num, by omega, Hs2.out, Hbw.out.setCell (p := ⟨g, j, none⟩) (Nat.le_refl _) _⟩
              case measure => simp [intOf]; omega
            · have h2' : ¬ (c : Int) ≤ 122 := by omega
              have hid : H.up name[j] = name[j] := by unfold H.up; rw [Hcc.out, if_neg (by omega)]
              have hset : Byt wr g ((name.take (j + 1)).map H.up ++ name.drop (j + 1)) := by
                have := Hup.out
                rw [hid] at this
                rw [← this]
                have e : ((name.take j).map H.up ++ name.drop j).set j name[j] = (name.take j).map H.up ++ name.drop j := by
                  conv => lhs; rw [← H.up_get name j hlt]
                  exact List.set_getElem_self _
                rw [e]; exact Hbt.out
              have Hs2 := Lib.hid hset
              clear hset hid
              go_wp2
              go_roundw
              case rel => exact ⟨j + 1, by go_num, by omega, Hs2.out, Hbw.out⟩
              case measure => simp [intOf]; omega
          · have h1' : ¬ (97 : Int) ≤ (c : Int) := by omega
            have hid : H.up name[j] = name[j] := by unfold H.up; rw [Hcc.out, if_neg (by omega)]
            have hset : Byt wr g ((name.take (j + 1)).map H.up ++ name.drop (j + 1)) := by
              have := Hup.out
              rw [hid] at this
              rw [← this]
              have e : ((name.take j).map H.up ++ name.drop j).set j name[j] = (name.take j).map H.up ++ name.drop j := by
                conv => lhs; rw [← H.up_get name j hlt]
                exact List.set_getElem_self _
              rw [e]; exact Hbt.out
            have Hs2 := Lib.hid hset
            clear hset hid
            go_wp2
            go_roundw
            case rel => exact ⟨j + 1, by go_num, by omega, Hs2.out, Hbw.out⟩
            case measure => simp [intOf]; omega
        · have hjz : ¬ (j : Int) < z := by omega
          have hbt := Hbt.out
          rw [List.take_of_length_le (by omega), List.drop_of_length_le (by omega), List.append_nil] at hbt
          have hbw := Hbw.out
          rw [← Hg.out] at hbw
          have F3 := Lib.hid (Hw1.out.under hbw)
          have HB3 := Lib.hid hbt
          clear hbt hbw
          obtain ⟨a0, a1, a2, a3⟩ := box4 F3.out.box
          have la := blk_lt F3.out.box
          go_wp2_with fail
          with_reducible refine (HF.out _ F3.out.q).mono ?_
          rintro e w4 ⟨rfl, hb4⟩
          have F4 := Lib.hid (F3.out.under hb4)
          have hby4 := HB3.out.under hb4
          have hbk := back_own w4 g (name.map H.up) C hby4
          rw [Hml.out] at hbk
          obtain ⟨b0, b1, b2, b3⟩ := box4 F4.out.box
          have lb := blk_lt F4.out.box
          clear hb4 hby4 a0 a1 a2 a3 la F3 HB3
          go_wp2_with fail
          with_reducible refine (HU.out _ F4.out.q).mono ?_
          rintro e w5 ⟨rfl, hb5⟩
          have F5 := Lib.hid (F4.out.under hb5)
          obtain ⟨c0, c1, c2, c3⟩ := box4 F5.out.box
          have lc := blk_lt F5.out.box
          clear hb5 F4 b0 b1 b2 b3 lb hbk
          go_wp2_with fail
          with_reducible refine (HWQ.out _ F5.out.q F5.out.t).mono ?_
          rintro e w6 ⟨rfl, hb6⟩
          have F6 := Lib.hid (F5.out.under hb6)
          clear hb6 F5 c0 c1 c2 c3 lc
          go_wp2
          go_ret
          exact ⟨rfl, F6.out.bel⟩
    · rw [h1] at hwq
      have HWQ := Lib.hid hwq
      have hr1 := fun w hT => rd_any w (H.woutH (H.firstOf q.method q.target) q.hs q.body) 65536 (by decide) (by omega) hT q (H.woutH (H.firstOf q.method q.target) q.hs q.body).length 0 (by have := hb1 []; rw [List.append_nil] at this; exact this)
      have HR := Lib.hid hr1
      obtain ⟨o1, ho1⟩ : ∃ o, H.woutH (H.firstOf q.method q.target) q.hs q.body = o := ⟨_, rfl⟩
      rw [ho1] at HWQ HR hl1
      clear hwq h1 hm1 hr1 ho1 hb1
      go_enter Tryz.func8, Tryz.ntmps8
      go_upto_region 1 with (fail)
      rw [← hX]
      clear hX
      go_wp2_with fail
      refine (lives_any X F0.out.t).mono ?_
      rintro e w1 ⟨rfl, hb1⟩
      have F1 := Lib.hid (F0.out.under hb1)
      clear hb1
      obtain ⟨C, w2, hcv, hb2, hby⟩ := conv_own w1 name
      have F2 := Lib.hid (F1.out.under hb2)
      have HB := Lib.hid hby
      have hgl := hby.lt
      obtain ⟨g, hg⟩ : ∃ g, w1.heap.size = g := ⟨_, rfl⟩
      have Hg := Lib.hid hg
      rw [hg] at hcv HB hgl
      have H12 := Lib.hid (hg ▸ hb2)
      have Hw1 := Lib.hid F1.out
      clear hb2 hby hg
      go_wp2
      clear hcv
      go_loopw [25] (fun u wr => ∃ j : Nat, u = .int .i64 (j : Int) ∧ j ≤ name.length ∧ Byt wr g ((name.take j).map H.up ++ name.drop j) ∧ Below g w1 wr) (fun u _ => name.length - (intOf u).toNat)
      case atStart => exact ⟨0, rfl, Nat.zero_le _, by simpa using HB.out, H12.out⟩
      case round =>
        obtain ⟨j, rfl, hj, hbt, hbw⟩ := hrel
        have Hbt := Lib.hid hbt
        have Hbw := Lib.hid hbw
        have hlg := hbt.lt
        clear hbt hbw
        by_cases hlt : j < name.length
        · have hjz : (j : Int) < z := by omega
          have hlen : j < ((name.take j).map H.up ++ name.drop j).length := by simp [List.length_take, List.length_drop]; omega
          have hc := Hbt.out.cell j hlen
          rw [H.up_get name j hlt] at hc
          have hf := Hbt.out.free j hlen
          obtain ⟨c, hcc⟩ : ∃ c : Nat, name[j].toNat = c := ⟨_, rfl⟩
          have hc255 : c < 256 := by rw [← hcc]; exact name[j].toNat_lt
          have Hup := Lib.hid (H.up_at name j hlt)
          have Hset := Lib.hid (Hbt.out.set j (H.up name[j]) hlen)
          have Hcc := Lib.hid hcc
          have Hlen := Lib.hid hlen
          rw [hcc] at hc
          clear hcc hlen
          by_cases h1 : 97 ≤ c
          · have h1' : (97 : Int) ≤ (c : Int) := by omega
            by_cases h2 : c ≤ 122
            · have h2' : (c : Int) ≤ 122 := by omega
              have hw : IntKind.u8.wrap ((c : Int) - 32) = (c : Int) - 32 := by rw [IntKind.wrap_u8]; omega
              have hu : ((H.up name[j]).toNat : Int) = (c : Int) - 32 := by
                unfold H.up
                rw [Hcc.out, if_pos ⟨h1, h2⟩]
                have : (name[j] - 32).toNat = name[j].toNat - 32 := by rw [UInt8.toNat_sub_of_le]; rfl; rw [UInt8.le_iff_toNat_le]; show 32 ≤ name[j].toNat; have := Hcc.out; omega
                rw [this, Hcc.out]; omega
              have hset := Hset.out
              rw [Hup.out, hu] at hset
              have Hs2 := Lib.hid hset
              clear hset hu
              go_wp2
              go_roundw
              case rel => exact ⟨j + 1, by go_num, by omega, Hs2.out, Hbw.out.setCell (p := ⟨g, j, none⟩) (Nat.le_refl _) _⟩
              case measure => simp [intOf]; omega
            · have h2' : ¬ (c : Int) ≤ 122 := by omega
              have hid : H.up name[j] = name[j] := by unfold H.up; rw [Hcc.out, if_neg (by omega)]
              have hset : Byt wr g ((name.take (j + 1)).map H.up ++ name.drop (j + 1)) := by
                have := Hup.out
                rw [hid] at this
                rw [← this]
                have e : ((name.take j).map H.up ++ name.drop j).set j name[j] = (name.take j).map H.up ++ name.drop j := by
                  conv => lhs; rw [← H.up_get name j hlt]
                  exact List.set_getElem_self _
                rw [e]; exact Hbt.out
              have Hs2 := Lib.hid hset
              clear hset hid
              go_wp2
              go_roundw
              case rel => exact ⟨j + 1, by go_num, by omega, Hs2.out, Hbw.out⟩
              case measure => simp [intOf]; omega
          · have h1' : ¬ (97 : Int) ≤ (c : Int) := by omega
            have hid : H.up name[j] = name[j] := by unfold H.up; rw [Hcc.out, if_neg (by omega)]
            have hset : Byt wr g ((name.take (j + 1)).map H.up ++ name.drop (j + 1)) := by
              have := Hup.out
              rw [hid] at this
              rw [← this]
              have e : ((name.take j).map H.up ++ name.drop j).set j name[j] = (name.take j).map H.up ++ name.drop j := by
                conv => lhs; rw [← H.up_get name j hlt]
                exact List.set_getElem_self _
              rw [e]; exact Hbt.out
            have Hs2 := Lib.hid hset
            clear hset hid
            go_wp2
            go_roundw
            case rel => exact ⟨j + 1, by go_num, by omega, Hs2.out, Hbw.out⟩
            case measure => simp [intOf]; omega
        · have hjz : ¬ (j : Int) < z := by omega
          have hbt := Hbt.out
          rw [List.take_of_length_le (by omega), List.drop_of_length_le (by omega), List.append_nil] at hbt
          have hbw := Hbw.out
          rw [← Hg.out] at hbw
          have F3 := Lib.hid (Hw1.out.under hbw)
          have HB3 := Lib.hid hbt
          clear hbt hbw
          obtain ⟨a0, a1, a2, a3⟩ := box4 F3.out.box
          have la := blk_lt F3.out.box
          go_wp2_with fail
          with_reducible refine (HF.out _ F3.out.q).mono ?_
          rintro e w4 ⟨rfl, hb4⟩
          have F4 := Lib.hid (F3.out.under hb4)
          have hby4 := HB3.out.under hb4
          have hbk := back_own w4 g (name.map H.up) C hby4
          rw [Hml.out] at hbk
          obtain ⟨b0, b1, b2, b3⟩ := box4 F4.out.box
          have lb := blk_lt F4.out.box
          clear hb4 hby4 a0 a1 a2 a3 la F3 HB3
          go_wp2_with fail
          with_reducible refine (HU.out _ F4.out.q).mono ?_
          rintro e w5 ⟨rfl, hb5⟩
          have F5 := Lib.hid (F4.out.under hb5)
          obtain ⟨c0, c1, c2, c3⟩ := box4 F5.out.box
          have lc := blk_lt F5.out.box
          clear hb5 F4 b0 b1 b2 b3 lb hbk
          go_wp2_with fail
          with_reducible refine (HWQ.out _ F5.out.q F5.out.t).mono ?_
          rintro e w6 ⟨rfl, hb6⟩
          have F6 := Lib.hid (F5.out.under hb6)
          clear hb6 F5 c0 c1 c2 c3 lc
          go_wp2_with fail
          with_reducible refine (HR.out _ F6.out.t).mono ?_
          rintro e w7 ⟨hb7, ad7, k7, cap7, rfl, rfl, hd7⟩
          obtain ⟨Y, hY⟩ : ∃ Y, Y = w7.alloc (.cells #[S q.method, S q.target, .slice ad7 q.hs.length cap7, S q.body] 24) := ⟨_, rfl⟩
          have hbY : Below w7.heap.size w7 Y := by rw [hY]; exact (Below.refl _ w7).alloc (Nat.le_refl _) _
          have hk7 : Y.heap[w7.heap.size]? = some (.cells #[S q.method, S q.target, .slice ad7 q.hs.length cap7, S q.body] 24 (0, 0)) := by rw [hY]; exact blk_new w7 _
          have hbb := hb7.trans (hbY.mono hb7.size)
          have F7 := Lib.hid (F6.out.under hbb)
          have hf7 := find_any Y q.hs name ad7 cap7 (hd7.under hbY) F7.out.q.big F7.out.q.many
          rw [Hfo.out] at hf7
          obtain ⟨d0, d1, d2, d3⟩ := box4 hk7
          have ld := blk_lt hk7
          clear hb7 hbY hbb hd7 hk7 F6 HR
          go_upto_region 18 with (fail)
          rw [← hY]
          clear hY
          go_wp2_with fail
          with_reducible refine hf7.mono ?_
          rintro e w8 ⟨rfl, hb8⟩
          have F8 := Lib.hid (F7.out.under hb8)
          clear hb8 hf7
          go_wp2
          go_ret
          exact ⟨rfl, F8.out.bel⟩
  | true =>
    clear hfb
    rcases H.writeReq_cases q with h1 | ⟨h1, hm1, hl1, hb1⟩
    · rw [h1] at hwq
      have HWQ := Lib.hid hwq
      clear hwq h1
      go_enter Tryz.func8, Tryz.ntmps8
      go_upto_region 1 with (fail)
      rw [← hX]
      clear hX
      go_wp2_with fail
      refine (lives_any X F0.out.t).mono ?_
      rintro e w1 ⟨rfl, hb1⟩
      have F1 := Lib.hid (F0.out.under hb1)
      clear hb1
      obtain ⟨C, w2, hcv, hb2, hby⟩ := conv_own w1 name
      have F2 := Lib.hid (F1.out.under hb2)
      have HB := Lib.hid hby
      have hgl := hby.lt
      obtain ⟨g, hg⟩ : ∃ g, w1.heap.size = g := ⟨_, rfl⟩
      have Hg := Lib.hid hg
      rw [hg] at hcv HB hgl
      have H12 := Lib.hid (hg ▸ hb2)
      have Hw1 := Lib.hid F1.out
      clear hb2 hby hg
      go_wp2
      clear hcv
      go_loopw [25] (fun u wr => ∃ j : Nat, u = .int .i64 (j : Int) ∧ j ≤ name.length ∧ Byt wr g ((name.take j).map H.up ++ name.drop j) ∧ Below g w1 wr) (fun u _ => name.length - (intOf u).toNat)
      case atStart => exact ⟨0, rfl, Nat.zero_le _, by simpa using HB.out, H12.out⟩
      case round =>
        obtain ⟨j, rfl, hj, hbt, hbw⟩ := hrel
        have Hbt := Lib.hid hbt
        have Hbw := Lib.hid hbw
        have hlg := hbt.lt
        clear hbt hbw
        by_cases hlt : j < name.length
        · have hjz : (j : Int) < z := by omega
          have hlen : j < ((name.take j).map H.up ++ name.drop j).length := by simp [List.length_take, List.length_drop]; omega
          have hc := Hbt.out.cell j hlen
          rw [H.up_get name j hlt] at hc
          have hf := Hbt.out.free j hlen
          obtain ⟨c, hcc⟩ : ∃ c : Nat, name[j].toNat = c := ⟨_, rfl⟩
          have hc255 : c < 256 := by rw [← hcc]; exact name[j].toNat_lt
          have Hup := Lib.hid (H.up_at name j hlt)
          have Hset := Lib.hid (Hbt.out.set j (H.up name[j]) hlen)
          have Hcc := Lib.hid hcc
          have Hlen := Lib.hid hlen
          rw [hcc] at hc
          clear hcc hlen
          by_cases h1 : 97 ≤ c
          · have h1' : (97 : Int) ≤ (c : Int) := by omega
            by_cases h2 : c ≤ 122
            · have h2' : (c : Int) ≤ 122 := by omega
              have hw : IntKind.u8.wrap ((c : Int) - 32) = (c : Int) - 32 := by rw [IntKind.wrap_u8]; omega
              have hu : ((H.up name[j]).toNat : Int) = (c : Int) - 32 := by
                unfold H.up
                rw [Hcc.out, if_pos ⟨h1, h2⟩]
                have : (name[j] - 32).toNat = name[j].toNat - 32 := by rw [UInt8.toNat_sub_of_le]; rfl; rw [UInt8.le_iff_toNat_le]; show 32 ≤ name[j].toNat; have := Hcc.out; omega
                rw [this, Hcc.out]; omega
              have hset := Hset.out
              rw [Hup.out, hu] at hset
              have Hs2 := Lib.hid hset
              clear hset hu
              go_wp2
              go_roundw
              case rel => exact ⟨j + 1, by go_num, by omega, Hs2.out, Hbw.out.setCell (p := ⟨g, j, none⟩) (Nat.le_refl _) _⟩
              case measure => simp [intOf]; omega
            · have h2' : ¬ (c : Int) ≤ 122 := by omega
              have hid : H.up name[j] = name[j] := by unfold H.up; rw [Hcc.out, if_neg (by omega)]
              have hset : Byt wr g ((name.take (j + 1)).map H.up ++ name.drop (j + 1)) := by
                have := Hup.out
                rw [hid] at this
                rw [← this]
                have e : ((name.take j).map H.up ++ name.drop j).set j name[j] = (name.take j).map H.up ++ name.drop j := by
                  conv => lhs; rw [← H.up_get name j hlt]
                  exact List.set_getElem_self _
                rw [e]; exact Hbt.out
              have Hs2 := Lib.hid hset
              clear hset hid
              go_wp2
              go_roundw
              case rel => exact ⟨j + 1, by go_num, by omega, Hs2.out, Hbw.out⟩
              case measure => simp [intOf]; omega
          · have h1' : ¬ (97 : Int) ≤ (c : Int) := by omega
            have hid : H.up name[j] = name[j] := by unfold H.up; rw [Hcc.out, if_neg (by omega)]
            have hset : Byt wr g ((name.take (j + 1)).map H.up ++ name.drop (j + 1)) := by
              have := Hup.out
              rw [hid] at this
              rw [← this]
              have e : ((name.take j).map H.up ++ name.drop j).set j name[j] = (name.take j).map H.up ++ name.drop j := by
                conv => lhs; rw [← H.up_get name j hlt]
                exact List.set_getElem_self _
              rw [e]; exact Hbt.out
            have Hs2 := Lib.hid hset
            clear hset hid
            go_wp2
            go_roundw
            case rel => exact ⟨j + 1, by go_num, by omega, Hs2.out, Hbw.out⟩
            case measure => simp [intOf]; omega
        · have hjz : ¬ (j : Int) < z := by omega
          have hbt := Hbt.out
          rw [List.take_of_length_le (by omega), List.drop_of_length_le (by omega), List.append_nil] at hbt
          have hbw := Hbw.out
          rw [← Hg.out] at hbw
          have F3 := Lib.hid (Hw1.out.under hbw)
          have HB3 := Lib.hid hbt
          clear hbt hbw
          obtain ⟨a0, a1, a2, a3⟩ := box4 F3.out.box
          have la := blk_lt F3.out.box
          go_wp2_with fail
          with_reducible refine (HF.out _ F3.out.q).mono ?_
          rintro e w4 ⟨rfl, hb4⟩
          have F4 := Lib.hid (F3.out.under hb4)
          have hby4 := HB3.out.under hb4
          have hbk := back_own w4 g (name.map H.up) C hby4
          rw [Hml.out] at hbk
          obtain ⟨b0, b1, b2, b3⟩ := box4 F4.out.box
          have lb := blk_lt F4.out.box
          clear hb4 hby4 a0 a1 a2 a3 la F3 HB3
          go_wp2_with fail
          with_reducible refine (HU.out _ F4.out.q).mono ?_
          rintro e w5 ⟨rfl, hb5⟩
          have F5 := Lib.hid (F4.out.under hb5)
          obtain ⟨c0, c1, c2, c3⟩ := box4 F5.out.box
          have lc := blk_lt F5.out.box
          clear hb5 F4 b0 b1 b2 b3 lb hbk
          go_wp2_with fail
          with_reducible refine (HWQ.out _ F5.out.q F5.out.t).mono ?_
          rintro e w6 ⟨rfl, hb6⟩
          have F6 := Lib.hid (F5.out.under hb6)
          clear hb6 F5 c0 c1 c2 c3 lc
          go_wp2
          go_ret
          exact ⟨rfl, F6.out.bel⟩
    · rw [h1] at hwq
      have HWQ := Lib.hid hwq
      have hr1 := fun w hT => rd_any w (H.woutH (H.firstOf q.method q.target) q.hs q.body) 65536 (by decide) (by omega) hT q (H.woutH (H.firstOf q.method q.target) q.hs q.body).length 0 (by have := hb1 []; rw [List.append_nil] at this; exact this)
      have HR := Lib.hid hr1
      obtain ⟨o1, ho1⟩ : ∃ o, H.woutH (H.firstOf q.method q.target) q.hs q.body = o := ⟨_, rfl⟩
      rw [ho1] at HWQ HR hl1
      clear hwq h1 hm1 hr1 ho1 hb1
      go_enter Tryz.func8, Tryz.ntmps8
      go_upto_region 1 with (fail)
      rw [← hX]
      clear hX
      go_wp2_with fail
      refine (lives_any X F0.out.t).mono ?_
      rintro e w1 ⟨rfl, hb1⟩
      have F1 := Lib.hid (F0.out.under hb1)
      clear hb1
      obtain ⟨C, w2, hcv, hb2, hby⟩ := conv_own w1 name
      have F2 := Lib.hid (F1.out.under hb2)
      have HB := Lib.hid hby
      have hgl := hby.lt
      obtain ⟨g, hg⟩ : ∃ g, w1.heap.size = g := ⟨_, rfl⟩
      have Hg := Lib.hid hg
      rw [hg] at hcv HB hgl
      have H12 := Lib.hid (hg ▸ hb2)
      have Hw1 := Lib.hid F1.out
      clear hb2 hby hg
      go_wp2
      clear hcv
      go_loopw [25] (fun u wr => ∃ j : Nat, u = .int .i64 (j : Int) ∧ j ≤ name.length ∧ Byt wr g ((name.take j).map H.up ++ name.drop j) ∧ Below g w1 wr) (fun u _ => name.length - (intOf u).toNat)
      case atStart => exact ⟨0, rfl, Nat.zero_le _, by simpa using HB.out, H12.out⟩
      case round =>
        obtain ⟨j, rfl, hj, hbt, hbw⟩ := hrel
        have Hbt := Lib.hid hbt
        have Hbw := Lib.hid hbw
        have hlg := hbt.lt
        clear hbt hbw
        by_cases hlt : j < name.length
        · have hjz : (j : Int) < z := by omega
          have hlen : j < ((name.take j).map H.up ++ name.drop j).length := by simp [List.length_take, List.length_drop]; omega
          have hc := Hbt.out.cell j hlen
          rw [H.up_get name j hlt] at hc
          have hf := Hbt.out.free j hlen
          obtain ⟨c, hcc⟩ : ∃ c : Nat, name[j].toNat = c := ⟨_, rfl⟩
          have hc255 : c < 256 := by rw [← hcc]; exact name[j].toNat_lt
          have Hup := Lib.hid (H.up_at name j hlt)
          have Hset := Lib.hid (Hbt.out.set j (H.up name[j]) hlen)
          have Hcc := Lib.hid hcc
          have Hlen := Lib.hid hlen
          rw [hcc] at hc
          clear hcc hlen
          by_cases h1 : 97 ≤ c
          · have h1' : (97 : Int) ≤ (c : Int) := by omega
            by_cases h2 : c ≤ 122
            · have h2' : (c : Int) ≤ 122 := by omega
              have hw : IntKind.u8.wrap ((c : Int) - 32) = (c : Int) - 32 := by rw [IntKind.wrap_u8]; omega
              have hu : ((H.up name[j]).toNat : Int) = (c : Int) - 32 := by
                unfold H.up
                rw [Hcc.out, if_pos ⟨h1, h2⟩]
                have : (name[j] - 32).toNat = name[j].toNat - 32 := by rw [UInt8.toNat_sub_of_le]; rfl; rw [UInt8.le_iff_toNat_le]; show 32 ≤ name[j].toNat; have := Hcc.out; omega
                rw [this, Hcc.out]; omega
              have hset := Hset.out
              rw [Hup.out, hu] at hset
              have Hs2 := Lib.hid hset
              clear hset hu
              go_wp2
              go_roundw
              case rel => exact ⟨j + 1, by go_num, by omega, Hs2.out, Hbw.out.setCell (p := ⟨g, j, none⟩) (Nat.le_refl _) _⟩
              case measure => simp [intOf]; omega
            · have h2' : ¬ (c : Int) ≤ 122 := by omega
              have hid : H.up name[j] = name[j] := by unfold H.up; rw [Hcc.out, if_neg (by omega)]
              have hset : Byt wr g ((name.take (j + 1)).map H.up ++ name.drop (j + 1)) := by
                have := Hup.out
                rw [hid] at this
                rw [← this]
                have e : ((name.take j).map H.up ++ name.drop j).set j name[j] = (name.take j).map H.up ++ name.drop j := by
                  conv => lhs; rw [← H.up_get name j hlt]
                  exact List.set_getElem_self _
                rw [e]; exact Hbt.out
              have Hs2 := Lib.hid hset
              clear hset hid
              go_wp2
              go_roundw
              case rel => exact ⟨j + 1, by go_num, by omega, Hs2.out, Hbw.out⟩
              case measure => simp [intOf]; omega
          · have h1' : ¬ (97 : Int) ≤ (c : Int) := by omega
            have hid : H.up name[j] = name[j] := by unfold H.up; rw [Hcc.out, if_neg (by omega)]
            have hset : Byt wr g ((name.take (j + 1)).map H.up ++ name.drop (j + 1)) := by
              have := Hup.out
              rw [hid] at this
              rw [← this]
              have e : ((name.take j).map H.up ++ name.drop j).set j name[j] = (name.take j).map H.up ++ name.drop j := by
                conv => lhs; rw [← H.up_get name j hlt]
                exact List.set_getElem_self _
              rw [e]; exact Hbt.out
            have Hs2 := Lib.hid hset
            clear hset hid
            go_wp2
            go_roundw
            case rel => exact ⟨j + 1, by go_num, by omega, Hs2.out, Hbw.out⟩
            case measure => simp [intOf]; omega
        · have hjz : ¬ (j : Int) < z := by omega
          have hbt := Hbt.out
          rw [List.take_of_length_le (by omega), List.drop_of_length_le (by omega), List.append_nil] at hbt
          have hbw := Hbw.out
          rw [← Hg.out] at hbw
          have F3 := Lib.hid (Hw1.out.under hbw)
          have HB3 := Lib.hid hbt
          clear hbt hbw
          obtain ⟨a0, a1, a2, a3⟩ := box4 F3.out.box
          have la := blk_lt F3.out.box
          go_wp2_with fail
          with_reducible refine (HF.out _ F3.out.q).mono ?_
          rintro e w4 ⟨rfl, hb4⟩
          have F4 := Lib.hid (F3.out.under hb4)
          have hby4 := HB3.out.under hb4
          have hbk := back_own w4 g (name.map H.up) C hby4
          rw [Hml.out] at hbk
          obtain ⟨b0, b1, b2, b3⟩ := box4 F4.out.box
          have lb := blk_lt F4.out.box
          clear hb4 hby4 a0 a1 a2 a3 la F3 HB3
          go_wp2_with fail
          with_reducible refine (HU.out _ F4.out.q).mono ?_
          rintro e w5 ⟨rfl, hb5⟩
          have F5 := Lib.hid (F4.out.under hb5)
          obtain ⟨c0, c1, c2, c3⟩ := box4 F5.out.box
          have lc := blk_lt F5.out.box
          clear hb5 F4 b0 b1 b2 b3 lb hbk
          go_wp2_with fail
          with_reducible refine (HWQ.out _ F5.out.q F5.out.t).mono ?_
          rintro e w6 ⟨rfl, hb6⟩
          have F6 := Lib.hid (F5.out.under hb6)
          clear hb6 F5 c0 c1 c2 c3 lc
          go_wp2_with fail
          with_reducible refine (HR.out _ F6.out.t).mono ?_
          rintro e w7 ⟨hb7, ad7, k7, cap7, rfl, rfl, hd7⟩
          obtain ⟨Y, hY⟩ : ∃ Y, Y = w7.alloc (.cells #[S q.method, S q.target, .slice ad7 q.hs.length cap7, S q.body] 24) := ⟨_, rfl⟩
          have hbY : Below w7.heap.size w7 Y := by rw [hY]; exact (Below.refl _ w7).alloc (Nat.le_refl _) _
          have hk7 : Y.heap[w7.heap.size]? = some (.cells #[S q.method, S q.target, .slice ad7 q.hs.length cap7, S q.body] 24 (0, 0)) := by rw [hY]; exact blk_new w7 _
          have hbb := hb7.trans (hbY.mono hb7.size)
          have F7 := Lib.hid (F6.out.under hbb)
          have hf7 := find_any Y q.hs name ad7 cap7 (hd7.under hbY) F7.out.q.big F7.out.q.many
          rw [Hfo.out] at hf7
          obtain ⟨d0, d1, d2, d3⟩ := box4 hk7
          have ld := blk_lt hk7
          clear hb7 hbY hbb hd7 hk7 F6 HR
          go_upto_region 18 with (fail)
          rw [← hY]
          clear hY
          go_wp2_with fail
          with_reducible refine hf7.mono ?_
          rintro e w8 ⟨rfl, hb8⟩
          have F8 := Lib.hid (F7.out.under hb8)
          clear hb8 hf7
          go_wp2
          go_ret
          exact ⟨rfl, F8.out.bel⟩
theorem finds_str (w : World) (q : H.Rq) (ad : Option Addr) (cap : Nat) (hq : RqIn w ad q) (x : ByteArray) (hx : x.size ≤ 140737488355000) (hT : Tabs w) :
    Calls Tryz.prog 8 #[.agg #[S q.method, S q.target, .slice ad q.hs.length cap, S q.body], .string x] w fun e w' => e = .returned (.bool true) ∧ Below w.heap.size w w' := by
  obtain ⟨l, rfl⟩ : ∃ l : H.T, x = ⟨l.toArray⟩ := ⟨x.data.toList, (S_data x).symm⟩
  rw [S_size] at hx
  refine finds_case w q ad cap hq l hx hT (H.findO q.hs l).1 (H.findO q.hs l).2 rfl ?_
  unfold H.findO
  split
  · intro h; cases h
  · intro _; rfl
end Go.Proofs.YtjkinjfbjbehjaaGreatDoor
