/- SEGMENT: THE WALKS OVER head, frame. -/
import Derived.Test.YtkhmdofeonlnpaaGreatDoorGai
import Derived.Lib.BufferWrite
import Derived.Deep.Cut
namespace Go.Proofs.YtkhmdofeonlnpaaGreatDoor
open Go.RowKit
set_option maxRecDepth 100000
set_option linter.unusedVariables false
set_option linter.unusedSimpArgs false

theorem op_copy {P : Program} {w w1 : World} {o : Oper} {a : Act} {K : Act → World → Prop} {Q : Exit → Act → World → Prop} (s x : Operand) {T U : TypeId} {v1 : Value} (S V : Value) (hs : a.eval s = S) (hx : a.eval x = V)
    (ho : o.op = .call { callee := .builtin .copy, args := #[s, x], argTypes := #[T, U] }) (hr : (Builtin.copy_ #[T, U] o.type #[S, V]).run P w = .ok v1 w1) (h : K (a.put o.dst v1) w1) : Oper.wp P o a w K Q := by
  unfold Oper.wp execOp
  simp only [ho, resolve, invoke, builtin, Sem.run_bind, Sem.run_pure, Result.andThen_ok, List.map_toArray, List.map_cons, List.map_nil, hs, hx, hr]
  exact h
theorem Tryz.size5 : (Tryz.prog.info? 5).map (·.size) = some 1 := by kernel_rfl
theorem BRow.arr {w : World} {base g n : Nat} {xs : List UInt8} (h : BRow w base g n xs) : Arr w g 5 xs := by
  rcases h.2 with ⟨hv, _⟩ | ⟨g', cap, cur, hv, _, hg, _, _, hs, ht⟩
  · cases hv
  · simp only [Value.slice.injEq, Option.some.injEq, Addr.mk.injEq, true_and, and_true] at hv
    obtain ⟨rfl, rfl⟩ := hv
    unfold Arr
    rw [hg]
    rw [List.take_of_length_le (by rw [Array.length_toList]; omega)] at ht
    rw [← ht]
theorem Arr.lt {w : World} {g T : Nat} {xs : List UInt8} (h : Arr w g T xs) : g < w.heap.size := (Array.getElem?_eq_some_iff.1 h).1
theorem Arr.under {w w' : World} {g T : Nat} {xs : List UInt8} (h : Arr w g T xs) (hb : Below w.heap.size w w') : Arr w' g T xs := (hb.block _ h.lt).trans h
/-- a text is copied into it -/
theorem Arr.copy {w : World} {g : Nat} {xs : List UInt8} (h : Arr w g 5 xs) (s : List UInt8) (o dLen dCap : Nat) (hle : s.length ≤ dLen) (hfit : o + s.length ≤ xs.length) :
    ∃ w', (∀ ty, (Builtin.copy_ #[151, 9] ty #[.slice (some ⟨g, o, none⟩) dLen dCap, .string ⟨s.toArray⟩]).run Tryz.prog w = .ok (.int .i64 (s.length : Int)) w') ∧ Arr w' g 5 (xs.take o ++ s ++ xs.drop (o + s.length)) ∧ ∀ B w0, Below B w0 w → B ≤ g → Below B w0 w' := by
  have hs : (⟨s.toArray⟩ : ByteArray).size = s.length := by simp [ByteArray.size]
  refine ⟨_, fun ty => by
    have := Lib.run_copy_row_string (P := Tryz.prog) w 151 9 ty 5 g o dLen dCap ⟨s.toArray⟩ _ 5 Tryz.underlying151 Tryz.size5 h (by rw [hs]; exact hle) (by rw [hs]; simpa using hfit)
    rw [hs] at this
    exact this, ?_, fun B w0 hb hB => below_setRow hb hB _⟩
  have := setRow_heap w g _ ((((xs.map B).toArray).toList.take o ++ Lib.byteCells s ++ ((xs.map B).toArray).toList.drop (o + s.length)).toArray) 5 (0, 0) h
  unfold Arr
  rw [this]
  congr 3
  simp [Lib.byteCells, List.map_take, List.map_drop]
/-- a record's head -/
def headL (seq : Nat) (d : ByteArray) : List UInt8 := M.le 4 d.size ++ M.le 8 seq ++ M.le 4 (crc [⟨(M.le 4 d.size).toArray⟩, ⟨(M.le 8 seq).toArray⟩, d])
theorem headL_len (seq : Nat) (d : ByteArray) : (headL seq d).length = 16 := by simp [headL, M.le_len]
theorem headL_size (seq : Nat) (d : ByteArray) (h : d.size < 4294967296) : M.unle ((headL seq d).take 4) = d.size := by
  unfold headL
  rw [List.append_assoc, List.take_append_of_le_length (by rw [M.le_len]; omega), List.take_of_length_le (by rw [M.le_len]; omega)]
  exact M.unle_le 4 _ (by simpa using h)
theorem box2' {w : World} {g : Nat} {x0 x1 : Value} {t : TypeId} (h : w.heap[g]? = some (.cells #[x0, x1] t (0, 0))) : w.cell? ⟨g, 0, none⟩ = some x0 ∧ w.cell? ⟨g, 1, none⟩ = some x1 :=
  ⟨cell_of_row w g 0 _ t (0, 0) h, cell_of_row w g 1 _ t (0, 0) h⟩
theorem box3' {w : World} {g : Nat} {x0 x1 x2 : Value} {t : TypeId} (h : w.heap[g]? = some (.cells #[x0, x1, x2] t (0, 0))) : w.cell? ⟨g, 0, none⟩ = some x0 ∧ w.cell? ⟨g, 1, none⟩ = some x1 ∧ w.cell? ⟨g, 2, none⟩ = some x2 :=
  ⟨cell_of_row w g 0 _ t (0, 0) h, cell_of_row w g 1 _ t (0, 0) h, cell_of_row w g 2 _ t (0, 0) h⟩

theorem little4 (w : World) (n : Int) (hn0 : 0 ≤ n) (hn : n ≤ 18446744073709551615) : Calls Tryz.prog 233 #[.int .u64 n, .int .i64 4] w fun e w' => e = .returned (.string ⟨(M.le 4 n.toNat).toArray⟩) ∧ Below w.heap.size w w' := little_any w n 4 hn0 hn (by omega) (by omega)
theorem little8 (w : World) (n : Int) (hn0 : 0 ≤ n) (hn : n ≤ 18446744073709551615) : Calls Tryz.prog 233 #[.int .u64 n, .int .i64 8] w fun e w' => e = .returned (.string ⟨(M.le 8 n.toNat).toArray⟩) ∧ Below w.heap.size w w' := little_any w n 8 hn0 hn (by omega) (by omega)

theorem littleS (w : World) (n : Nat) (hn : n ≤ 4294967296) : Calls Tryz.prog 233 #[.int .u64 (IntKind.u64.wrap (n : Int)), .int .i64 4] w fun e w' => e = .returned (.string ⟨(M.le 4 n).toArray⟩) ∧ Below w.heap.size w w' := by
  rw [show IntKind.u64.wrap (n : Int) = (n : Int) from by rw [IntKind.wrap_u64]; omega]
  exact little4 w n (by omega) (by omega)

set_option maxHeartbeats 4000000 in
theorem head_any (w : World) (seq : Int) (d : ByteArray) (h0 : 0 ≤ seq) (h1 : seq ≤ 18446744073709551615) (hd : d.size ≤ 1000000000) (hT : Tabs w) :
    Calls Tryz.prog 216 #[.agg #[.int .u64 seq, .string d]] w fun e w' => e = .returned (.string ⟨(headL seq.toNat d).toArray⟩) ∧ Below w.heap.size w w' := by
  obtain ⟨i0, hi, hz0, hz1, hz2⟩ := info_parts Tryz.info5
  have HT := Lib.hid hT
  clear hT
  go_enter Tryz.func216, Tryz.ntmps216
  go_wp2_with (at_make; refine wpList_make_full _ rfl _ _ 151 rfl w.heap.size 5 i0 (.int .u8 0) 1 Tryz.underlying151 hi hz0 hz1 _ _ _ _ 16 rfl rfl rfl rfl ?b2 ?b3 (by simp) ?_)
  case b2 => rw [hz2]; omega
  case b3 => unfold maxLen; omega
  intro w1 hown hgr
  have hbw : Below (w.heap.size + 1) (w.alloc (.cells #[.int .u64 seq, .string d] 123)) w1 := by have := grown_b hgr; simpa using this
  have hA0 : Arr w1 (w.heap.size + 1) 5 (List.replicate 16 0) := by have := (made_bytes hown).arr; simpa using this
  have hR0 : w1.heap[w.heap.size]? = some (.cells #[.int .u64 seq, .string d] 123 (0, 0)) := (hbw.block _ (by omega)).trans (blk_new w _)
  have hB0 : Below w.heap.size w w1 := ((Below.refl _ w).alloc (Nat.le_refl _) _).trans (hbw.mono (by omega))
  have HA := Lib.hid hA0
  have HR := Lib.hid hR0
  have HB := Lib.hid hB0
  have HTw := Lib.hid (HT.out.under hB0)
  clear hown hgr hbw hA0 hR0 hB0 hi hz0 hz1 hz2
  obtain ⟨g, hg⟩ : ∃ g, w.heap.size + 1 = g := ⟨_, rfl⟩
  obtain ⟨b, hb⟩ : ∃ b, w.heap.size = b := ⟨_, rfl⟩
  have hgb : b ≤ g := by omega
  have hwb : w.heap.size ≤ b := by omega
  have hwg : w.heap.size ≤ g := by omega
  rw [hg] at HA
  rw [hb] at HR
  rw [hg, hb]
  have hgb' : g ≠ b := by omega
  have hgb2 : b ≠ g := by omega
  have HBw := Lib.hid hwb
  have HGw := Lib.hid hwg
  clear hg hb hwb hwg
  go_upto_region 2 with (fail)
  refine wp_region_any (by kernel_rfl) ?_
  obtain ⟨X9, hX⟩ : ∃ X, w1.drew = X := ⟨_, rfl⟩
  change wpAny _ _ _ _ _ _ _ (w1.drew)
  rw [hX]
  have hbX : Below w1.heap.size w1 X9 := by rw [← hX]; exact (Below.refl _ w1).drew
  replace HA := Lib.hid (HA.out.under hbX)
  replace HR := Lib.hid ((hbX.block _ (Array.getElem?_eq_some_iff.1 HR.out).1).trans HR.out)
  replace HTw := Lib.hid (HTw.out.under hbX)
  replace HB := Lib.hid (HB.out.trans (hbX.mono HB.out.size))
  clear hbX hX
  obtain ⟨r0, r1⟩ := box2' HR.out
  refine wpAny_take (i := 0) (v := ?va1) rfl (by kernel_rfl) (by kernel_rfl) (by kernel_rfl) (fun _ _ _ h => h) (Or.inl ⟨by kernel_rfl, ?ha1⟩) ?ra1
  case ha1 => (intro w; go_simp; first | done | (with_reducible rfl))
  refine wpAny_take (i := 5) (v := ?va2) rfl (by kernel_rfl) (by kernel_rfl) (by kernel_rfl) (fun _ _ _ h => h) (Or.inl ⟨by kernel_rfl, ?ha2⟩) ?ra2
  case ha2 => (intro w; go_simp; first | done | (with_reducible rfl))
  refine wpAny_ready (rs := [1, 6]) (by kernel_rfl) (by simp) ?_
  refine AllReady.cons rfl (fun K hK => ?_) ?_
  · skip
    go_simp
    refine hK _ _ ?_
    clear hK K
    refine wpAny_take (i := 2) (v := ?va3) rfl (by kernel_rfl) (by kernel_rfl) (by kernel_rfl) (fun _ _ _ h => h) (Or.inl ⟨by kernel_rfl, ?ha3⟩) ?ra3
    case ha3 => (intro w; go_simp; first | done | (with_reducible rfl))
    refine wpAny_take (i := 3) (v := ?va4) rfl (by kernel_rfl) (by kernel_rfl) (by kernel_rfl) (fun _ _ _ h => h) (Or.inl ⟨by kernel_rfl, ?ha4⟩) ?ra4
    case ha4 => (intro w; go_simp; first | done | (with_reducible rfl))
    refine wpAny_ready (rs := [4, 6]) (by kernel_rfl) (by simp) ?_
    refine AllReady.cons rfl (fun K hK => ?_) ?_
    · skip
      go_simp
      go_at_call 233
      refine (littleS _ d.size (by omega)).mono ?_
      rintro e wz ⟨rfl, hbz⟩
      clear r0 r1
      replace HA := Lib.hid (HA.out.under hbz)
      replace HR := Lib.hid ((hbz.block _ (Array.getElem?_eq_some_iff.1 HR.out).1).trans HR.out)
      replace HTw := Lib.hid (HTw.out.under hbz)
      replace HB := Lib.hid (HB.out.trans (hbz.mono HB.out.size))
      clear hbz
      obtain ⟨r0, r1⟩ := box2' HR.out
      refine hK _ _ ?_
      clear hK K
      refine wpAny_ready (rs := [6]) (by kernel_rfl) (by simp) ?_
      refine AllReady.cons rfl (fun K hK => ?_) AllReady.nil
      go_simp
      refine hK _ _ ?_
      clear hK K
      refine wpAny_ready (rs := [7]) (by kernel_rfl) (by simp) ?_
      refine AllReady.cons rfl (fun K hK => ?_) AllReady.nil
      go_simp
      go_at_call 233
      refine (little8 _ seq h0 h1).mono ?_
      rintro e wz ⟨rfl, hbz⟩
      clear r0 r1
      replace HA := Lib.hid (HA.out.under hbz)
      replace HR := Lib.hid ((hbz.block _ (Array.getElem?_eq_some_iff.1 HR.out).1).trans HR.out)
      replace HTw := Lib.hid (HTw.out.under hbz)
      replace HB := Lib.hid (HB.out.trans (hbz.mono HB.out.size))
      clear hbz
      obtain ⟨r0, r1⟩ := box2' HR.out
      refine hK _ _ ?_
      clear hK K
      refine wpAny_ready (rs := [8]) (by kernel_rfl) (by simp) ?_
      refine AllReady.cons rfl (fun K hK => ?_) AllReady.nil
      go_simp
      refine hK _ _ ?_
      clear hK K
      refine wpAny_ready (rs := [9]) (by kernel_rfl) (by simp) ?_
      refine AllReady.cons rfl (fun K hK => ?_) AllReady.nil
      go_simp
      refine hK _ _ ?_
      clear hK K
      refine wpAny_done (by kernel_rfl) ?_ _
      try go_simp
      (skip; skip)
      obtain ⟨Wq, hWq⟩ : ∃ W, W = wz.alloc (.cells #[.string ⟨(M.le 4 d.size).toArray⟩, .string ⟨(M.le 8 seq.toNat).toArray⟩, .string d] 9) := ⟨_, rfl⟩
      have hbq : Below wz.heap.size wz Wq := by rw [hWq]; exact (Below.refl _ wz).alloc (Nat.le_refl _) _
      have hcq := box3' (show Wq.heap[wz.heap.size]? = some (.cells #[.string ⟨(M.le 4 d.size).toArray⟩, .string ⟨(M.le 8 seq.toNat).toArray⟩, .string d] 9 (0, 0)) from by rw [hWq]; exact blk_new wz _)
      have hck := checksum_any Wq wz.heap.size [⟨(M.le 4 d.size).toArray⟩, ⟨(M.le 8 seq.toNat).toArray⟩, d] (by simp) (fun s hs => by
        simp only [List.mem_cons, List.not_mem_nil, or_false] at hs
        rcases hs with rfl | rfl | rfl
        · show (M.le 4 d.size).toArray.size ≤ _; rw [List.size_toArray, M.le_len]; omega
        · show (M.le 8 seq.toNat).toArray.size ≤ _; rw [List.size_toArray, M.le_len]; omega
        · omega) (HTw.out.under hbq) (fun i s hs => by
        match i, hs with
        | 0, hs => simp at hs; subst hs; exact hcq.1
        | 1, hs => simp at hs; subst hs; exact hcq.2.1
        | 2, hs => simp at hs; subst hs; exact hcq.2.2
        | i + 3, hs => simp at hs)
      obtain ⟨c, hc⟩ : ∃ c, crc [⟨(M.le 4 d.size).toArray⟩, ⟨(M.le 8 seq.toNat).toArray⟩, d] = c := ⟨_, rfl⟩
      have hclt := crc_lt [⟨(M.le 4 d.size).toArray⟩, ⟨(M.le 8 seq.toNat).toArray⟩, d]
      rw [hc] at hck hclt
      have HcE := Lib.hid hc
      have Hck := Lib.hid hck
      replace HA := Lib.hid (HA.out.under hbq)
      replace HB := Lib.hid (HB.out.trans (hbq.mono HB.out.size))
      clear HTw HR hbq hcq hck hc
      go_wp2_with fail
      rw [← hWq]
      clear r0 r1
      refine (Hck.out).mono ?_
      rintro e wq ⟨rfl, rfl⟩
      clear hWq Hck
      obtain ⟨W2, hcp, hA2, hB2⟩ := HA.out.copy (M.le 4 d.size) 0 16 16 (by rw [M.le_len]; omega) (by rw [M.le_len]; simp)
      obtain ⟨a4, ha4⟩ : ∃ a : ByteArray, a = ⟨(M.le 4 d.size).toArray⟩ := ⟨_, rfl⟩
      rw [← ha4] at hcp ⊢
      have HA2 := Lib.hid hA2
      have HB2 := Lib.hid (hB2 _ _ HB.out HGw.out)
      clear hA2 hB2 HA HB
      obtain ⟨W4, hcp2, hA4, hB4⟩ := HA2.out.copy (M.le 8 seq.toNat) 4 12 12 (by rw [M.le_len]; omega) (by simp [M.le_len])
      obtain ⟨a8, ha8⟩ : ∃ a : ByteArray, a = ⟨(M.le 8 seq.toNat).toArray⟩ := ⟨_, rfl⟩
      rw [← ha8] at hcp2 ⊢
      have HB := Lib.hid (hB4 _ _ HB2.out HGw.out)
      obtain ⟨L4, hL4⟩ : ∃ L : List UInt8, L = M.le 4 d.size ++ M.le 8 seq.toNat ++ List.replicate 4 0 := ⟨_, rfl⟩
      have hA4' : Arr W4 g 5 L4 := by
        rw [hL4]
        have e : (M.le 4 d.size ++ M.le 8 seq.toNat ++ List.replicate 4 0 : List UInt8) = List.take 4 (List.take 0 (List.replicate 16 0) ++ M.le 4 d.size ++ List.drop (0 + (M.le 4 d.size).length) (List.replicate 16 0)) ++ M.le 8 seq.toNat ++ List.drop (4 + (M.le 8 seq.toNat).length) (List.take 0 (List.replicate 16 0) ++ M.le 4 d.size ++ List.drop (0 + (M.le 4 d.size).length) (List.replicate 16 0)) := by
          simp [M.le_len, List.take_append, List.drop_append]
        rw [e]
        exact hA4
      have Hlen4 := Lib.hid (show L4.length = 16 from by rw [hL4]; simp [M.le_len])
      have HL4 := Lib.hid hL4
      have HA := Lib.hid hA4'
      clear hA4 hB4 hA4' hL4 HA2 HB2 ha4 ha8
      go_upto_region 6 with (fail)
      refine wp_region_any (by kernel_rfl) ?_
      obtain ⟨X5, hX⟩ : ∃ X, W4.drew = X := ⟨_, rfl⟩
      change wpAny _ _ _ _ _ _ _ (W4.drew)
      rw [hX]
      have hbX : Below W4.heap.size W4 X5 := by rw [← hX]; exact (Below.refl _ W4).drew
      replace HA := Lib.hid (HA.out.under hbX)
      replace HB := Lib.hid (HB.out.trans (hbX.mono HB.out.size))
      clear hbX hX
      refine wpAny_take (i := 0) (v := ?vb0x1) rfl (by kernel_rfl) (by kernel_rfl) (by kernel_rfl) (fun _ _ _ h => h) (Or.inl ⟨by kernel_rfl, ?hb0x1⟩) ?rb0x1
      case hb0x1 => (intro w; go_simp; first | done | (with_reducible rfl))
      refine wpAny_take (i := 2) (v := ?vb0x2) rfl (by kernel_rfl) (by kernel_rfl) (by kernel_rfl) (fun _ _ _ h => h) (Or.inl ⟨by kernel_rfl, ?hb0x2⟩) ?rb0x2
      case hb0x2 => (intro w; go_simp; first | done | (with_reducible rfl))
      refine wpAny_take (i := 3) (v := ?vb0x3) rfl (by kernel_rfl) (by kernel_rfl) (by kernel_rfl) (fun _ _ _ h => h) (Or.inl ⟨by kernel_rfl, ?hb0x3⟩) ?rb0x3
      case hb0x3 => (intro w; go_simp; first | done | (with_reducible rfl))
      refine wpAny_ready (rs := [1, 4]) (by kernel_rfl) (by simp) ?_
      refine AllReady.cons rfl (fun K hK => ?_) ?_
      · skip
        go_simp
        refine hK _ _ ?_
        clear hK K
        refine wpAny_ready (rs := [4]) (by kernel_rfl) (by simp) ?_
        refine AllReady.cons rfl (fun K hK => ?_) AllReady.nil
        go_simp
        go_at_call 233
        refine (littleS _ c (by omega)).mono ?_
        rintro e wy ⟨rfl, hby⟩
        replace HA := Lib.hid (HA.out.under hby)
        replace HB := Lib.hid (HB.out.trans (hby.mono HB.out.size))
        clear hby
        refine hK _ _ ?_
        clear hK K
        refine wpAny_ready (rs := [5]) (by kernel_rfl) (by simp) ?_
        refine AllReady.cons rfl (fun K hK => ?_) AllReady.nil
        obtain ⟨W6, hcp6, hA6, hB6⟩ := HA.out.copy (M.le 4 c) 12 4 4 (by rw [M.le_len]; omega) (by rw [Hlen4.out, M.le_len]; omega)
        rw [if_pos (by kernel_rfl)]
        refine op_copy (.tmp 30) (.tmp 33) (.slice (some ⟨g, 12, none⟩) 4 4) (.string ⟨(M.le 4 c).toArray⟩) (by kernel_rfl) (by kernel_rfl) rfl (hcp6 _) ?_
        replace HB := Lib.hid (hB6 _ _ HB.out HGw.out)
        replace HA := Lib.hid hA6
        clear hcp6 hA6 hB6
        refine hK _ _ ?_
        clear hK K
        refine wpAny_done (by kernel_rfl) ?_ _
        try go_simp
        have hfin : ((L4.take 12 ++ M.le 4 c ++ L4.drop (12 + (M.le 4 c).length)) : List UInt8) = headL seq.toNat d := by
          unfold headL
          rw [HL4.out, HcE.out, M.le_len]
          have e1 : (M.le 4 d.size ++ M.le 8 seq.toNat).length = 12 := by simp [M.le_len]
          rw [List.take_append_of_le_length (by omega), List.take_of_length_le (by omega), List.drop_of_length_le (by simp [M.le_len]), List.append_nil]
        replace HA := Lib.hid (show Arr W6 g 5 (headL seq.toNat d) from by rw [← hfin]; exact HA.out)
        clear hfin
        have hcv := HA.out.conv (P := Tryz.prog) (S := 151) (U := 9) Tryz.underlying151 Tryz.underlying5 Tryz.underlying9
        rw [headL_len] at hcv
        obtain ⟨s9, hs9⟩ : ∃ s : ByteArray, s = ⟨(headL seq.toNat d).toArray⟩ := ⟨_, rfl⟩
        rw [← hs9] at hcv
        have Hs9 := Lib.hid hs9
        clear hs9
        go_wp2
        go_ret
        exact ⟨by rw [← Hs9.out]; rfl, HB.out⟩
      refine AllReady.cons rfl (fun K hK => ?_) AllReady.nil
      go_simp
      go_at_call 233
      refine (littleS _ c (by omega)).mono ?_
      rintro e wy ⟨rfl, hby⟩
      replace HA := Lib.hid (HA.out.under hby)
      replace HB := Lib.hid (HB.out.trans (hby.mono HB.out.size))
      clear hby
      refine hK _ _ ?_
      clear hK K
      refine wpAny_ready (rs := [1]) (by kernel_rfl) (by simp) ?_
      refine AllReady.cons rfl (fun K hK => ?_) AllReady.nil
      go_simp
      refine hK _ _ ?_
      clear hK K
      refine wpAny_ready (rs := [5]) (by kernel_rfl) (by simp) ?_
      refine AllReady.cons rfl (fun K hK => ?_) AllReady.nil
      obtain ⟨W6, hcp6, hA6, hB6⟩ := HA.out.copy (M.le 4 c) 12 4 4 (by rw [M.le_len]; omega) (by rw [Hlen4.out, M.le_len]; omega)
      rw [if_pos (by kernel_rfl)]
      refine op_copy (.tmp 30) (.tmp 33) (.slice (some ⟨g, 12, none⟩) 4 4) (.string ⟨(M.le 4 c).toArray⟩) (by kernel_rfl) (by kernel_rfl) rfl (hcp6 _) ?_
      replace HB := Lib.hid (hB6 _ _ HB.out HGw.out)
      replace HA := Lib.hid hA6
      clear hcp6 hA6 hB6
      refine hK _ _ ?_
      clear hK K
      refine wpAny_done (by kernel_rfl) ?_ _
      try go_simp
      have hfin : ((L4.take 12 ++ M.le 4 c ++ L4.drop (12 + (M.le 4 c).length)) : List UInt8) = headL seq.toNat d := by
        unfold headL
        rw [HL4.out, HcE.out, M.le_len]
        have e1 : (M.le 4 d.size ++ M.le 8 seq.toNat).length = 12 := by simp [M.le_len]
        rw [List.take_append_of_le_length (by omega), List.take_of_length_le (by omega), List.drop_of_length_le (by simp [M.le_len]), List.append_nil]
      replace HA := Lib.hid (show Arr W6 g 5 (headL seq.toNat d) from by rw [← hfin]; exact HA.out)
      clear hfin
      have hcv := HA.out.conv (P := Tryz.prog) (S := 151) (U := 9) Tryz.underlying151 Tryz.underlying5 Tryz.underlying9
      rw [headL_len] at hcv
      obtain ⟨s9, hs9⟩ : ∃ s : ByteArray, s = ⟨(headL seq.toNat d).toArray⟩ := ⟨_, rfl⟩
      rw [← hs9] at hcv
      have Hs9 := Lib.hid hs9
      clear hs9
      go_wp2
      go_ret
      exact ⟨by rw [← Hs9.out]; rfl, HB.out⟩
    refine AllReady.cons rfl (fun K hK => ?_) AllReady.nil
    go_simp
    refine hK _ _ ?_
    clear hK K
    refine wpAny_ready (rs := [4]) (by kernel_rfl) (by simp) ?_
    refine AllReady.cons rfl (fun K hK => ?_) AllReady.nil
    go_simp
    go_at_call 233
    refine (littleS _ d.size (by omega)).mono ?_
    rintro e wz ⟨rfl, hbz⟩
    clear r0 r1
    replace HA := Lib.hid (HA.out.under hbz)
    replace HR := Lib.hid ((hbz.block _ (Array.getElem?_eq_some_iff.1 HR.out).1).trans HR.out)
    replace HTw := Lib.hid (HTw.out.under hbz)
    replace HB := Lib.hid (HB.out.trans (hbz.mono HB.out.size))
    clear hbz
    obtain ⟨r0, r1⟩ := box2' HR.out
    refine hK _ _ ?_
    clear hK K
    refine wpAny_ready (rs := [7]) (by kernel_rfl) (by simp) ?_
    refine AllReady.cons rfl (fun K hK => ?_) AllReady.nil
    go_simp
    go_at_call 233
    refine (little8 _ seq h0 h1).mono ?_
    rintro e wz ⟨rfl, hbz⟩
    clear r0 r1
    replace HA := Lib.hid (HA.out.under hbz)
    replace HR := Lib.hid ((hbz.block _ (Array.getElem?_eq_some_iff.1 HR.out).1).trans HR.out)
    replace HTw := Lib.hid (HTw.out.under hbz)
    replace HB := Lib.hid (HB.out.trans (hbz.mono HB.out.size))
    clear hbz
    obtain ⟨r0, r1⟩ := box2' HR.out
    refine hK _ _ ?_
    clear hK K
    refine wpAny_ready (rs := [8]) (by kernel_rfl) (by simp) ?_
    refine AllReady.cons rfl (fun K hK => ?_) AllReady.nil
    go_simp
    refine hK _ _ ?_
    clear hK K
    refine wpAny_ready (rs := [9]) (by kernel_rfl) (by simp) ?_
    refine AllReady.cons rfl (fun K hK => ?_) AllReady.nil
    go_simp
    refine hK _ _ ?_
    clear hK K
    refine wpAny_done (by kernel_rfl) ?_ _
    try go_simp
    (skip; skip)
    obtain ⟨Wq, hWq⟩ : ∃ W, W = wz.alloc (.cells #[.string ⟨(M.le 4 d.size).toArray⟩, .string ⟨(M.le 8 seq.toNat).toArray⟩, .string d] 9) := ⟨_, rfl⟩
    have hbq : Below wz.heap.size wz Wq := by rw [hWq]; exact (Below.refl _ wz).alloc (Nat.le_refl _) _
    have hcq := box3' (show Wq.heap[wz.heap.size]? = some (.cells #[.string ⟨(M.le 4 d.size).toArray⟩, .string ⟨(M.le 8 seq.toNat).toArray⟩, .string d] 9 (0, 0)) from by rw [hWq]; exact blk_new wz _)
    have hck := checksum_any Wq wz.heap.size [⟨(M.le 4 d.size).toArray⟩, ⟨(M.le 8 seq.toNat).toArray⟩, d] (by simp) (fun s hs => by
      simp only [List.mem_cons, List.not_mem_nil, or_false] at hs
      rcases hs with rfl | rfl | rfl
      · show (M.le 4 d.size).toArray.size ≤ _; rw [List.size_toArray, M.le_len]; omega
      · show (M.le 8 seq.toNat).toArray.size ≤ _; rw [List.size_toArray, M.le_len]; omega
      · omega) (HTw.out.under hbq) (fun i s hs => by
      match i, hs with
      | 0, hs => simp at hs; subst hs; exact hcq.1
      | 1, hs => simp at hs; subst hs; exact hcq.2.1
      | 2, hs => simp at hs; subst hs; exact hcq.2.2
      | i + 3, hs => simp at hs)
    obtain ⟨c, hc⟩ : ∃ c, crc [⟨(M.le 4 d.size).toArray⟩, ⟨(M.le 8 seq.toNat).toArray⟩, d] = c := ⟨_, rfl⟩
    have hclt := crc_lt [⟨(M.le 4 d.size).toArray⟩, ⟨(M.le 8 seq.toNat).toArray⟩, d]
    rw [hc] at hck hclt
    have HcE := Lib.hid hc
    have Hck := Lib.hid hck
    replace HA := Lib.hid (HA.out.under hbq)
    replace HB := Lib.hid (HB.out.trans (hbq.mono HB.out.size))
    clear HTw HR hbq hcq hck hc
    go_wp2_with fail
    rw [← hWq]
    clear r0 r1
    refine (Hck.out).mono ?_
    rintro e wq ⟨rfl, rfl⟩
    clear hWq Hck
    obtain ⟨W2, hcp, hA2, hB2⟩ := HA.out.copy (M.le 4 d.size) 0 16 16 (by rw [M.le_len]; omega) (by rw [M.le_len]; simp)
    obtain ⟨a4, ha4⟩ : ∃ a : ByteArray, a = ⟨(M.le 4 d.size).toArray⟩ := ⟨_, rfl⟩
    rw [← ha4] at hcp ⊢
    have HA2 := Lib.hid hA2
    have HB2 := Lib.hid (hB2 _ _ HB.out HGw.out)
    clear hA2 hB2 HA HB
    obtain ⟨W4, hcp2, hA4, hB4⟩ := HA2.out.copy (M.le 8 seq.toNat) 4 12 12 (by rw [M.le_len]; omega) (by simp [M.le_len])
    obtain ⟨a8, ha8⟩ : ∃ a : ByteArray, a = ⟨(M.le 8 seq.toNat).toArray⟩ := ⟨_, rfl⟩
    rw [← ha8] at hcp2 ⊢
    have HB := Lib.hid (hB4 _ _ HB2.out HGw.out)
    obtain ⟨L4, hL4⟩ : ∃ L : List UInt8, L = M.le 4 d.size ++ M.le 8 seq.toNat ++ List.replicate 4 0 := ⟨_, rfl⟩
    have hA4' : Arr W4 g 5 L4 := by
      rw [hL4]
      have e : (M.le 4 d.size ++ M.le 8 seq.toNat ++ List.replicate 4 0 : List UInt8) = List.take 4 (List.take 0 (List.replicate 16 0) ++ M.le 4 d.size ++ List.drop (0 + (M.le 4 d.size).length) (List.replicate 16 0)) ++ M.le 8 seq.toNat ++ List.drop (4 + (M.le 8 seq.toNat).length) (List.take 0 (List.replicate 16 0) ++ M.le 4 d.size ++ List.drop (0 + (M.le 4 d.size).length) (List.replicate 16 0)) := by
        simp [M.le_len, List.take_append, List.drop_append]
      rw [e]
      exact hA4
    have Hlen4 := Lib.hid (show L4.length = 16 from by rw [hL4]; simp [M.le_len])
    have HL4 := Lib.hid hL4
    have HA := Lib.hid hA4'
    clear hA4 hB4 hA4' hL4 HA2 HB2 ha4 ha8
    go_upto_region 6 with (fail)
    refine wp_region_any (by kernel_rfl) ?_
    obtain ⟨X5, hX⟩ : ∃ X, W4.drew = X := ⟨_, rfl⟩
    change wpAny _ _ _ _ _ _ _ (W4.drew)
    rw [hX]
    have hbX : Below W4.heap.size W4 X5 := by rw [← hX]; exact (Below.refl _ W4).drew
    replace HA := Lib.hid (HA.out.under hbX)
    replace HB := Lib.hid (HB.out.trans (hbX.mono HB.out.size))
    clear hbX hX
    refine wpAny_take (i := 0) (v := ?vb1x1) rfl (by kernel_rfl) (by kernel_rfl) (by kernel_rfl) (fun _ _ _ h => h) (Or.inl ⟨by kernel_rfl, ?hb1x1⟩) ?rb1x1
    case hb1x1 => (intro w; go_simp; first | done | (with_reducible rfl))
    refine wpAny_take (i := 2) (v := ?vb1x2) rfl (by kernel_rfl) (by kernel_rfl) (by kernel_rfl) (fun _ _ _ h => h) (Or.inl ⟨by kernel_rfl, ?hb1x2⟩) ?rb1x2
    case hb1x2 => (intro w; go_simp; first | done | (with_reducible rfl))
    refine wpAny_take (i := 3) (v := ?vb1x3) rfl (by kernel_rfl) (by kernel_rfl) (by kernel_rfl) (fun _ _ _ h => h) (Or.inl ⟨by kernel_rfl, ?hb1x3⟩) ?rb1x3
    case hb1x3 => (intro w; go_simp; first | done | (with_reducible rfl))
    refine wpAny_ready (rs := [1, 4]) (by kernel_rfl) (by simp) ?_
    refine AllReady.cons rfl (fun K hK => ?_) ?_
    · skip
      go_simp
      refine hK _ _ ?_
      clear hK K
      refine wpAny_ready (rs := [4]) (by kernel_rfl) (by simp) ?_
      refine AllReady.cons rfl (fun K hK => ?_) AllReady.nil
      go_simp
      go_at_call 233
      refine (littleS _ c (by omega)).mono ?_
      rintro e wy ⟨rfl, hby⟩
      replace HA := Lib.hid (HA.out.under hby)
      replace HB := Lib.hid (HB.out.trans (hby.mono HB.out.size))
      clear hby
      refine hK _ _ ?_
      clear hK K
      refine wpAny_ready (rs := [5]) (by kernel_rfl) (by simp) ?_
      refine AllReady.cons rfl (fun K hK => ?_) AllReady.nil
      obtain ⟨W6, hcp6, hA6, hB6⟩ := HA.out.copy (M.le 4 c) 12 4 4 (by rw [M.le_len]; omega) (by rw [Hlen4.out, M.le_len]; omega)
      rw [if_pos (by kernel_rfl)]
      refine op_copy (.tmp 30) (.tmp 33) (.slice (some ⟨g, 12, none⟩) 4 4) (.string ⟨(M.le 4 c).toArray⟩) (by kernel_rfl) (by kernel_rfl) rfl (hcp6 _) ?_
      replace HB := Lib.hid (hB6 _ _ HB.out HGw.out)
      replace HA := Lib.hid hA6
      clear hcp6 hA6 hB6
      refine hK _ _ ?_
      clear hK K
      refine wpAny_done (by kernel_rfl) ?_ _
      try go_simp
      have hfin : ((L4.take 12 ++ M.le 4 c ++ L4.drop (12 + (M.le 4 c).length)) : List UInt8) = headL seq.toNat d := by
        unfold headL
        rw [HL4.out, HcE.out, M.le_len]
        have e1 : (M.le 4 d.size ++ M.le 8 seq.toNat).length = 12 := by simp [M.le_len]
        rw [List.take_append_of_le_length (by omega), List.take_of_length_le (by omega), List.drop_of_length_le (by simp [M.le_len]), List.append_nil]
      replace HA := Lib.hid (show Arr W6 g 5 (headL seq.toNat d) from by rw [← hfin]; exact HA.out)
      clear hfin
      have hcv := HA.out.conv (P := Tryz.prog) (S := 151) (U := 9) Tryz.underlying151 Tryz.underlying5 Tryz.underlying9
      rw [headL_len] at hcv
      obtain ⟨s9, hs9⟩ : ∃ s : ByteArray, s = ⟨(headL seq.toNat d).toArray⟩ := ⟨_, rfl⟩
      rw [← hs9] at hcv
      have Hs9 := Lib.hid hs9
      clear hs9
      go_wp2
      go_ret
      exact ⟨by rw [← Hs9.out]; rfl, HB.out⟩
    refine AllReady.cons rfl (fun K hK => ?_) AllReady.nil
    go_simp
    go_at_call 233
    refine (littleS _ c (by omega)).mono ?_
    rintro e wy ⟨rfl, hby⟩
    replace HA := Lib.hid (HA.out.under hby)
    replace HB := Lib.hid (HB.out.trans (hby.mono HB.out.size))
    clear hby
    refine hK _ _ ?_
    clear hK K
    refine wpAny_ready (rs := [1]) (by kernel_rfl) (by simp) ?_
    refine AllReady.cons rfl (fun K hK => ?_) AllReady.nil
    go_simp
    refine hK _ _ ?_
    clear hK K
    refine wpAny_ready (rs := [5]) (by kernel_rfl) (by simp) ?_
    refine AllReady.cons rfl (fun K hK => ?_) AllReady.nil
    obtain ⟨W6, hcp6, hA6, hB6⟩ := HA.out.copy (M.le 4 c) 12 4 4 (by rw [M.le_len]; omega) (by rw [Hlen4.out, M.le_len]; omega)
    rw [if_pos (by kernel_rfl)]
    refine op_copy (.tmp 30) (.tmp 33) (.slice (some ⟨g, 12, none⟩) 4 4) (.string ⟨(M.le 4 c).toArray⟩) (by kernel_rfl) (by kernel_rfl) rfl (hcp6 _) ?_
    replace HB := Lib.hid (hB6 _ _ HB.out HGw.out)
    replace HA := Lib.hid hA6
    clear hcp6 hA6 hB6
    refine hK _ _ ?_
    clear hK K
    refine wpAny_done (by kernel_rfl) ?_ _
    try go_simp
    have hfin : ((L4.take 12 ++ M.le 4 c ++ L4.drop (12 + (M.le 4 c).length)) : List UInt8) = headL seq.toNat d := by
      unfold headL
      rw [HL4.out, HcE.out, M.le_len]
      have e1 : (M.le 4 d.size ++ M.le 8 seq.toNat).length = 12 := by simp [M.le_len]
      rw [List.take_append_of_le_length (by omega), List.take_of_length_le (by omega), List.drop_of_length_le (by simp [M.le_len]), List.append_nil]
    replace HA := Lib.hid (show Arr W6 g 5 (headL seq.toNat d) from by rw [← hfin]; exact HA.out)
    clear hfin
    have hcv := HA.out.conv (P := Tryz.prog) (S := 151) (U := 9) Tryz.underlying151 Tryz.underlying5 Tryz.underlying9
    rw [headL_len] at hcv
    obtain ⟨s9, hs9⟩ : ∃ s : ByteArray, s = ⟨(headL seq.toNat d).toArray⟩ := ⟨_, rfl⟩
    rw [← hs9] at hcv
    have Hs9 := Lib.hid hs9
    clear hs9
    go_wp2
    go_ret
    exact ⟨by rw [← Hs9.out]; rfl, HB.out⟩
  refine AllReady.cons rfl (fun K hK => ?_) AllReady.nil
  go_simp
  refine hK _ _ ?_
  clear hK K
  refine wpAny_ready (rs := [1]) (by kernel_rfl) (by simp) ?_
  refine AllReady.cons rfl (fun K hK => ?_) AllReady.nil
  go_simp
  refine hK _ _ ?_
  clear hK K
  refine wpAny_take (i := 2) (v := ?va5) rfl (by kernel_rfl) (by kernel_rfl) (by kernel_rfl) (fun _ _ _ h => h) (Or.inl ⟨by kernel_rfl, ?ha5⟩) ?ra5
  case ha5 => (intro w; go_simp; first | done | (with_reducible rfl))
  refine wpAny_take (i := 3) (v := ?va6) rfl (by kernel_rfl) (by kernel_rfl) (by kernel_rfl) (fun _ _ _ h => h) (Or.inl ⟨by kernel_rfl, ?ha6⟩) ?ra6
  case ha6 => (intro w; go_simp; first | done | (with_reducible rfl))
  refine wpAny_ready (rs := [4]) (by kernel_rfl) (by simp) ?_
  refine AllReady.cons rfl (fun K hK => ?_) AllReady.nil
  go_simp
  go_at_call 233
  refine (littleS _ d.size (by omega)).mono ?_
  rintro e wz ⟨rfl, hbz⟩
  clear r0 r1
  replace HA := Lib.hid (HA.out.under hbz)
  replace HR := Lib.hid ((hbz.block _ (Array.getElem?_eq_some_iff.1 HR.out).1).trans HR.out)
  replace HTw := Lib.hid (HTw.out.under hbz)
  replace HB := Lib.hid (HB.out.trans (hbz.mono HB.out.size))
  clear hbz
  obtain ⟨r0, r1⟩ := box2' HR.out
  refine hK _ _ ?_
  clear hK K
  refine wpAny_ready (rs := [7]) (by kernel_rfl) (by simp) ?_
  refine AllReady.cons rfl (fun K hK => ?_) AllReady.nil
  go_simp
  go_at_call 233
  refine (little8 _ seq h0 h1).mono ?_
  rintro e wz ⟨rfl, hbz⟩
  clear r0 r1
  replace HA := Lib.hid (HA.out.under hbz)
  replace HR := Lib.hid ((hbz.block _ (Array.getElem?_eq_some_iff.1 HR.out).1).trans HR.out)
  replace HTw := Lib.hid (HTw.out.under hbz)
  replace HB := Lib.hid (HB.out.trans (hbz.mono HB.out.size))
  clear hbz
  obtain ⟨r0, r1⟩ := box2' HR.out
  refine hK _ _ ?_
  clear hK K
  refine wpAny_ready (rs := [8]) (by kernel_rfl) (by simp) ?_
  refine AllReady.cons rfl (fun K hK => ?_) AllReady.nil
  go_simp
  refine hK _ _ ?_
  clear hK K
  refine wpAny_ready (rs := [9]) (by kernel_rfl) (by simp) ?_
  refine AllReady.cons rfl (fun K hK => ?_) AllReady.nil
  go_simp
  refine hK _ _ ?_
  clear hK K
  refine wpAny_done (by kernel_rfl) ?_ _
  try go_simp
  (skip; skip)
  obtain ⟨Wq, hWq⟩ : ∃ W, W = wz.alloc (.cells #[.string ⟨(M.le 4 d.size).toArray⟩, .string ⟨(M.le 8 seq.toNat).toArray⟩, .string d] 9) := ⟨_, rfl⟩
  have hbq : Below wz.heap.size wz Wq := by rw [hWq]; exact (Below.refl _ wz).alloc (Nat.le_refl _) _
  have hcq := box3' (show Wq.heap[wz.heap.size]? = some (.cells #[.string ⟨(M.le 4 d.size).toArray⟩, .string ⟨(M.le 8 seq.toNat).toArray⟩, .string d] 9 (0, 0)) from by rw [hWq]; exact blk_new wz _)
  have hck := checksum_any Wq wz.heap.size [⟨(M.le 4 d.size).toArray⟩, ⟨(M.le 8 seq.toNat).toArray⟩, d] (by simp) (fun s hs => by
    simp only [List.mem_cons, List.not_mem_nil, or_false] at hs
    rcases hs with rfl | rfl | rfl
    · show (M.le 4 d.size).toArray.size ≤ _; rw [List.size_toArray, M.le_len]; omega
    · show (M.le 8 seq.toNat).toArray.size ≤ _; rw [List.size_toArray, M.le_len]; omega
    · omega) (HTw.out.under hbq) (fun i s hs => by
    match i, hs with
    | 0, hs => simp at hs; subst hs; exact hcq.1
    | 1, hs => simp at hs; subst hs; exact hcq.2.1
    | 2, hs => simp at hs; subst hs; exact hcq.2.2
    | i + 3, hs => simp at hs)
  obtain ⟨c, hc⟩ : ∃ c, crc [⟨(M.le 4 d.size).toArray⟩, ⟨(M.le 8 seq.toNat).toArray⟩, d] = c := ⟨_, rfl⟩
  have hclt := crc_lt [⟨(M.le 4 d.size).toArray⟩, ⟨(M.le 8 seq.toNat).toArray⟩, d]
  rw [hc] at hck hclt
  have HcE := Lib.hid hc
  have Hck := Lib.hid hck
  replace HA := Lib.hid (HA.out.under hbq)
  replace HB := Lib.hid (HB.out.trans (hbq.mono HB.out.size))
  clear HTw HR hbq hcq hck hc
  go_wp2_with fail
  rw [← hWq]
  clear r0 r1
  refine (Hck.out).mono ?_
  rintro e wq ⟨rfl, rfl⟩
  clear hWq Hck
  obtain ⟨W2, hcp, hA2, hB2⟩ := HA.out.copy (M.le 4 d.size) 0 16 16 (by rw [M.le_len]; omega) (by rw [M.le_len]; simp)
  obtain ⟨a4, ha4⟩ : ∃ a : ByteArray, a = ⟨(M.le 4 d.size).toArray⟩ := ⟨_, rfl⟩
  rw [← ha4] at hcp ⊢
  have HA2 := Lib.hid hA2
  have HB2 := Lib.hid (hB2 _ _ HB.out HGw.out)
  clear hA2 hB2 HA HB
  obtain ⟨W4, hcp2, hA4, hB4⟩ := HA2.out.copy (M.le 8 seq.toNat) 4 12 12 (by rw [M.le_len]; omega) (by simp [M.le_len])
  obtain ⟨a8, ha8⟩ : ∃ a : ByteArray, a = ⟨(M.le 8 seq.toNat).toArray⟩ := ⟨_, rfl⟩
  rw [← ha8] at hcp2 ⊢
  have HB := Lib.hid (hB4 _ _ HB2.out HGw.out)
  obtain ⟨L4, hL4⟩ : ∃ L : List UInt8, L = M.le 4 d.size ++ M.le 8 seq.toNat ++ List.replicate 4 0 := ⟨_, rfl⟩
  have hA4' : Arr W4 g 5 L4 := by
    rw [hL4]
    have e : (M.le 4 d.size ++ M.le 8 seq.toNat ++ List.replicate 4 0 : List UInt8) = List.take 4 (List.take 0 (List.replicate 16 0) ++ M.le 4 d.size ++ List.drop (0 + (M.le 4 d.size).length) (List.replicate 16 0)) ++ M.le 8 seq.toNat ++ List.drop (4 + (M.le 8 seq.toNat).length) (List.take 0 (List.replicate 16 0) ++ M.le 4 d.size ++ List.drop (0 + (M.le 4 d.size).length) (List.replicate 16 0)) := by
      simp [M.le_len, List.take_append, List.drop_append]
    rw [e]
    exact hA4
  have Hlen4 := Lib.hid (show L4.length = 16 from by rw [hL4]; simp [M.le_len])
  have HL4 := Lib.hid hL4
  have HA := Lib.hid hA4'
  clear hA4 hB4 hA4' hL4 HA2 HB2 ha4 ha8
  go_upto_region 6 with (fail)
  refine wp_region_any (by kernel_rfl) ?_
  obtain ⟨X5, hX⟩ : ∃ X, W4.drew = X := ⟨_, rfl⟩
  change wpAny _ _ _ _ _ _ _ (W4.drew)
  rw [hX]
  have hbX : Below W4.heap.size W4 X5 := by rw [← hX]; exact (Below.refl _ W4).drew
  replace HA := Lib.hid (HA.out.under hbX)
  replace HB := Lib.hid (HB.out.trans (hbX.mono HB.out.size))
  clear hbX hX
  refine wpAny_take (i := 0) (v := ?vb2x1) rfl (by kernel_rfl) (by kernel_rfl) (by kernel_rfl) (fun _ _ _ h => h) (Or.inl ⟨by kernel_rfl, ?hb2x1⟩) ?rb2x1
  case hb2x1 => (intro w; go_simp; first | done | (with_reducible rfl))
  refine wpAny_take (i := 2) (v := ?vb2x2) rfl (by kernel_rfl) (by kernel_rfl) (by kernel_rfl) (fun _ _ _ h => h) (Or.inl ⟨by kernel_rfl, ?hb2x2⟩) ?rb2x2
  case hb2x2 => (intro w; go_simp; first | done | (with_reducible rfl))
  refine wpAny_take (i := 3) (v := ?vb2x3) rfl (by kernel_rfl) (by kernel_rfl) (by kernel_rfl) (fun _ _ _ h => h) (Or.inl ⟨by kernel_rfl, ?hb2x3⟩) ?rb2x3
  case hb2x3 => (intro w; go_simp; first | done | (with_reducible rfl))
  refine wpAny_ready (rs := [1, 4]) (by kernel_rfl) (by simp) ?_
  refine AllReady.cons rfl (fun K hK => ?_) ?_
  · skip
    go_simp
    refine hK _ _ ?_
    clear hK K
    refine wpAny_ready (rs := [4]) (by kernel_rfl) (by simp) ?_
    refine AllReady.cons rfl (fun K hK => ?_) AllReady.nil
    go_simp
    go_at_call 233
    refine (littleS _ c (by omega)).mono ?_
    rintro e wy ⟨rfl, hby⟩
    replace HA := Lib.hid (HA.out.under hby)
    replace HB := Lib.hid (HB.out.trans (hby.mono HB.out.size))
    clear hby
    refine hK _ _ ?_
    clear hK K
    refine wpAny_ready (rs := [5]) (by kernel_rfl) (by simp) ?_
    refine AllReady.cons rfl (fun K hK => ?_) AllReady.nil
    obtain ⟨W6, hcp6, hA6, hB6⟩ := HA.out.copy (M.le 4 c) 12 4 4 (by rw [M.le_len]; omega) (by rw [Hlen4.out, M.le_len]; omega)
    rw [if_pos (by kernel_rfl)]
    refine op_copy (.tmp 30) (.tmp 33) (.slice (some ⟨g, 12, none⟩) 4 4) (.string ⟨(M.le 4 c).toArray⟩) (by kernel_rfl) (by kernel_rfl) rfl (hcp6 _) ?_
    replace HB := Lib.hid (hB6 _ _ HB.out HGw.out)
    replace HA := Lib.hid hA6
    clear hcp6 hA6 hB6
    refine hK _ _ ?_
    clear hK K
    refine wpAny_done (by kernel_rfl) ?_ _
    try go_simp
    have hfin : ((L4.take 12 ++ M.le 4 c ++ L4.drop (12 + (M.le 4 c).length)) : List UInt8) = headL seq.toNat d := by
      unfold headL
      rw [HL4.out, HcE.out, M.le_len]
      have e1 : (M.le 4 d.size ++ M.le 8 seq.toNat).length = 12 := by simp [M.le_len]
      rw [List.take_append_of_le_length (by omega), List.take_of_length_le (by omega), List.drop_of_length_le (by simp [M.le_len]), List.append_nil]
    replace HA := Lib.hid (show Arr W6 g 5 (headL seq.toNat d) from by rw [← hfin]; exact HA.out)
    clear hfin
    have hcv := HA.out.conv (P := Tryz.prog) (S := 151) (U := 9) Tryz.underlying151 Tryz.underlying5 Tryz.underlying9
    rw [headL_len] at hcv
    obtain ⟨s9, hs9⟩ : ∃ s : ByteArray, s = ⟨(headL seq.toNat d).toArray⟩ := ⟨_, rfl⟩
    rw [← hs9] at hcv
    have Hs9 := Lib.hid hs9
    clear hs9
    go_wp2
    go_ret
    exact ⟨by rw [← Hs9.out]; rfl, HB.out⟩
  refine AllReady.cons rfl (fun K hK => ?_) AllReady.nil
  go_simp
  go_at_call 233
  refine (littleS _ c (by omega)).mono ?_
  rintro e wy ⟨rfl, hby⟩
  replace HA := Lib.hid (HA.out.under hby)
  replace HB := Lib.hid (HB.out.trans (hby.mono HB.out.size))
  clear hby
  refine hK _ _ ?_
  clear hK K
  refine wpAny_ready (rs := [1]) (by kernel_rfl) (by simp) ?_
  refine AllReady.cons rfl (fun K hK => ?_) AllReady.nil
  go_simp
  refine hK _ _ ?_
  clear hK K
  refine wpAny_ready (rs := [5]) (by kernel_rfl) (by simp) ?_
  refine AllReady.cons rfl (fun K hK => ?_) AllReady.nil
  obtain ⟨W6, hcp6, hA6, hB6⟩ := HA.out.copy (M.le 4 c) 12 4 4 (by rw [M.le_len]; omega) (by rw [Hlen4.out, M.le_len]; omega)
  rw [if_pos (by kernel_rfl)]
  refine op_copy (.tmp 30) (.tmp 33) (.slice (some ⟨g, 12, none⟩) 4 4) (.string ⟨(M.le 4 c).toArray⟩) (by kernel_rfl) (by kernel_rfl) rfl (hcp6 _) ?_
  replace HB := Lib.hid (hB6 _ _ HB.out HGw.out)
  replace HA := Lib.hid hA6
  clear hcp6 hA6 hB6
  refine hK _ _ ?_
  clear hK K
  refine wpAny_done (by kernel_rfl) ?_ _
  try go_simp
  have hfin : ((L4.take 12 ++ M.le 4 c ++ L4.drop (12 + (M.le 4 c).length)) : List UInt8) = headL seq.toNat d := by
    unfold headL
    rw [HL4.out, HcE.out, M.le_len]
    have e1 : (M.le 4 d.size ++ M.le 8 seq.toNat).length = 12 := by simp [M.le_len]
    rw [List.take_append_of_le_length (by omega), List.take_of_length_le (by omega), List.drop_of_length_le (by simp [M.le_len]), List.append_nil]
  replace HA := Lib.hid (show Arr W6 g 5 (headL seq.toNat d) from by rw [← hfin]; exact HA.out)
  clear hfin
  have hcv := HA.out.conv (P := Tryz.prog) (S := 151) (U := 9) Tryz.underlying151 Tryz.underlying5 Tryz.underlying9
  rw [headL_len] at hcv
  obtain ⟨s9, hs9⟩ : ∃ s : ByteArray, s = ⟨(headL seq.toNat d).toArray⟩ := ⟨_, rfl⟩
  rw [← hs9] at hcv
  have Hs9 := Lib.hid hs9
  clear hs9
  go_wp2
  go_ret
  exact ⟨by rw [← Hs9.out]; rfl, HB.out⟩
end Go.Proofs.YtkhmdofeonlnpaaGreatDoor

/- SEGMENT: THE WALK OVER frame. -/
namespace Go.Proofs.YtkhmdofeonlnpaaGreatDoor
open Go.RowKit
set_option maxRecDepth 100000
set_option linter.unusedVariables false
set_option linter.unusedSimpArgs false

/-- a record's frame -/
def frameL (seq : Nat) (d : ByteArray) : List UInt8 := headL seq d ++ d.data.toList
theorem frameL_len (seq : Nat) (d : ByteArray) : (frameL seq d).length = 16 + d.size := by
  unfold frameL; rw [List.length_append, headL_len]; simp

set_option maxHeartbeats 4000000 in
theorem frame_any (w : World) (seq : Int) (d : ByteArray) (h0 : 0 ≤ seq) (h1 : seq ≤ 18446744073709551615) (hd : d.size ≤ 1000000000) (hT : Tabs w) :
    Calls Tryz.prog 195 #[.agg #[.int .u64 seq, .string d]] w fun e w' => e = .returned (.string ⟨(frameL seq.toNat d).toArray⟩) ∧ Below w.heap.size w w' := by
  obtain ⟨i0, hi, hz0, hz1, hz2⟩ := info_parts Tryz.info5
  have HT := Lib.hid hT
  clear hT
  go_enter Tryz.func195, Tryz.ntmps195
  go_wp2_with (at_make; refine wpList_make_full _ rfl _ _ 151 rfl w.heap.size 5 i0 (.int .u8 0) 1 Tryz.underlying151 hi hz0 hz1 _ _ _ _ (16 + d.size) rfl rfl (by simp) (by simp) ?b2 ?b3 (by simp) ?_)
  case b2 => rw [hz2]; omega
  case b3 => unfold maxLen; omega
  intro w1 hown hgr
  obtain ⟨n, hn0⟩ : ∃ n, 16 + d.size = n := ⟨_, rfl⟩
  rw [hn0] at hown
  rw [hn0]
  have hn : n = 16 + d.size := hn0.symm
  clear hn0
  have hbw : Below (w.heap.size + 1) (w.alloc (.cells #[.int .u64 seq, .string d] 123)) w1 := by have := grown_b hgr; simpa using this
  have hA0 : Arr w1 (w.heap.size + 1) 5 (List.replicate n 0) := by have := (made_bytes hown).arr; simpa using this
  have hR0 : w1.heap[w.heap.size]? = some (.cells #[.int .u64 seq, .string d] 123 (0, 0)) := (hbw.block _ (by omega)).trans (blk_new w _)
  have hB0 : Below w.heap.size w w1 := ((Below.refl _ w).alloc (Nat.le_refl _) _).trans (hbw.mono (by omega))
  have HA := Lib.hid hA0
  have HR := Lib.hid hR0
  have HB := Lib.hid hB0
  have HTw := Lib.hid (HT.out.under hB0)
  clear hown hgr hbw hA0 hR0 hB0 hi hz0 hz1 hz2 HT
  obtain ⟨g, hg⟩ : ∃ g, w.heap.size + 1 = g := ⟨_, rfl⟩
  obtain ⟨b, hb⟩ : ∃ b, w.heap.size = b := ⟨_, rfl⟩
  have hgb' : g ≠ b := by omega
  have hblt : b < g := by omega
  have hgb2 : b ≠ g := by omega
  have HGw := Lib.hid (show w.heap.size ≤ g by omega)
  rw [hg] at HA
  rw [hb] at HR
  rw [hg, hb]
  clear hg hb
  obtain ⟨r0, r1⟩ := box2' HR.out
  have Hn := Lib.hid hn
  have hn16 : (16 : Int) ≤ (n : Int) := by omega
  have hn16' : 16 ≤ n := by omega
  clear hn
  go_wp2_with fail
  refine (head_any _ seq d h0 h1 hd HTw.out).mono ?_
  rintro e w2 ⟨rfl, hb2⟩
  clear r0 r1
  replace HA := Lib.hid (HA.out.under hb2)
  replace HR := Lib.hid ((hb2.block _ (Array.getElem?_eq_some_iff.1 HR.out).1).trans HR.out)
  replace HB := Lib.hid (HB.out.trans (hb2.mono HB.out.size))
  clear hb2 HTw
  obtain ⟨r0, r1⟩ := box2' HR.out
  obtain ⟨W3, hcp, hA3, hB3⟩ := HA.out.copy (headL seq.toNat d) 0 n n (by rw [headL_len]; omega) (by rw [headL_len, List.length_replicate]; omega)
  obtain ⟨a16, ha16⟩ : ∃ a : ByteArray, a = ⟨(headL seq.toNat d).toArray⟩ := ⟨_, rfl⟩
  rw [← ha16] at hcp ⊢
  have hr3 : W3.heap[b]? = some (.cells #[.int .u64 seq, .string d] 123 (0, 0)) := ((hB3 g w2 (Below.refl g w2) (Nat.le_refl _)).block b (by omega)).trans HR.out
  replace HB := Lib.hid (hB3 _ _ HB.out HGw.out)
  obtain ⟨L3, hL3⟩ : ∃ L : List UInt8, L = headL seq.toNat d ++ List.replicate (n - 16) 0 := ⟨_, rfl⟩
  have hA3' : Arr W3 g 5 L3 := by
    rw [hL3]
    have e : (headL seq.toNat d ++ List.replicate (n - 16) 0 : List UInt8) = List.take 0 (List.replicate n 0) ++ headL seq.toNat d ++ List.drop (0 + (headL seq.toNat d).length) (List.replicate n 0) := by
      simp [headL_len]
    rw [e]
    exact hA3
  replace HA := Lib.hid hA3'
  replace HR := Lib.hid hr3
  have HL3 := Lib.hid hL3
  clear hA3 hB3 hr3 hA3' hL3 ha16 r0 r1
  go_upto_region 3 with (fail)
  by_cases hz : d.size = 0
  · have hde : d = ⟨#[]⟩ := ByteArray.ext (Array.eq_empty_of_size_eq_zero hz)
    subst hde
    obtain rfl : n = 16 := Hn.out
    clear hz
    refine wp_region_any (by kernel_rfl) ?_
    obtain ⟨X9, hX⟩ : ∃ X, W3.drew = X := ⟨_, rfl⟩
    change wpAny _ _ _ _ _ _ _ (W3.drew)
    rw [hX]
    have hbX : Below W3.heap.size W3 X9 := by rw [← hX]; exact (Below.refl _ W3).drew
    replace HA := Lib.hid (HA.out.under hbX)
    replace HR := Lib.hid ((hbX.block _ (Array.getElem?_eq_some_iff.1 HR.out).1).trans HR.out)
    replace HB := Lib.hid (HB.out.trans (hbX.mono HB.out.size))
    clear hbX hX
    obtain ⟨r0, r1⟩ := box2' HR.out
    refine wpAny_take (i := 0) (v := ?vz1) rfl (by kernel_rfl) (by kernel_rfl) (by kernel_rfl) (fun _ _ _ h => h) (Or.inl ⟨by kernel_rfl, ?hz1⟩) ?rz1
    case hz1 => (intro w; go_simp; first | done | (with_reducible rfl))
    refine wpAny_take (i := 1) (v := ?vz2) rfl (by kernel_rfl) (by kernel_rfl) (by kernel_rfl) (fun _ _ _ h => h) (Or.inl ⟨by kernel_rfl, ?hz2⟩) ?rz2
    case hz2 => (intro w; go_simp; first | done | (with_reducible rfl))
    refine wpAny_take (i := 2) (v := ?vz3) rfl (by kernel_rfl) (by kernel_rfl) (by kernel_rfl) (fun _ _ _ h => h) (Or.inl ⟨by kernel_rfl, ?hz3⟩) ?rz3
    case hz3 => (intro w; go_simp; first | done | (with_reducible rfl))
    refine wpAny_ready (rs := [3]) (by kernel_rfl) (by simp) ?_
    refine AllReady.cons rfl (fun K hK => ?_) AllReady.nil
    go_simp
    refine hK _ _ ?_
    clear hK K
    refine wpAny_ready (rs := [4]) (by kernel_rfl) (by simp) ?_
    refine AllReady.cons rfl (fun K hK => ?_) AllReady.nil
    rw [if_pos (by kernel_rfl)]
    refine op_copy (.tmp 14) (.tmp 16) (.slice (some ⟨g, 0, none⟩) 0 0) (.string ⟨#[]⟩) (by kernel_rfl) (by kernel_rfl) rfl (Lib.run_copy_empty_string (P := Tryz.prog) X9 151 9 _ 5 _ 0 0 ⟨#[]⟩ Tryz.underlying151 (by rw [Tryz.size5]; rfl) rfl) ?_
    have HF := Lib.hid (show Arr X9 g 5 (frameL seq.toNat ⟨#[]⟩) from by
      have e : L3 = frameL seq.toNat ⟨#[]⟩ := by
        rw [HL3.out]
        simp [frameL]
      rw [← e]
      exact HA.out)
    clear HA
    refine hK _ _ ?_
    clear hK K
    refine wpAny_done (by kernel_rfl) ?_ _
    try go_simp
    have hcv := HF.out.conv (P := Tryz.prog) (S := 151) (U := 9) Tryz.underlying151 Tryz.underlying5 Tryz.underlying9
    rw [show (frameL seq.toNat ⟨#[]⟩).length = 16 from by rw [frameL_len]; rfl] at hcv
    obtain ⟨s9, hs9⟩ : ∃ s : ByteArray, s = ⟨(frameL seq.toNat ⟨#[]⟩).toArray⟩ := ⟨_, rfl⟩
    rw [← hs9] at hcv
    have Hs9 := Lib.hid hs9
    clear hs9
    go_wp2
    go_ret
    exact ⟨by rw [← Hs9.out]; rfl, HB.out⟩
  · have hz2 : 16 < n := by have := Hn.out; omega
    have hz3 : (16 : Int) < (n : Int) := by omega
    have hz4 : ¬ n = 16 := by omega
    clear hz
    refine wp_region_any (by kernel_rfl) ?_
    obtain ⟨X9, hX⟩ : ∃ X, W3.drew = X := ⟨_, rfl⟩
    change wpAny _ _ _ _ _ _ _ (W3.drew)
    rw [hX]
    have hbX : Below W3.heap.size W3 X9 := by rw [← hX]; exact (Below.refl _ W3).drew
    replace HA := Lib.hid (HA.out.under hbX)
    replace HR := Lib.hid ((hbX.block _ (Array.getElem?_eq_some_iff.1 HR.out).1).trans HR.out)
    replace HB := Lib.hid (HB.out.trans (hbX.mono HB.out.size))
    clear hbX hX
    obtain ⟨r0, r1⟩ := box2' HR.out
    refine wpAny_take (i := 0) (v := ?va1) rfl (by kernel_rfl) (by kernel_rfl) (by kernel_rfl) (fun _ _ _ h => h) (Or.inl ⟨by kernel_rfl, ?ha1⟩) ?ra1
    case ha1 => (intro w; go_simp; first | done | (with_reducible rfl))
    refine wpAny_take (i := 1) (v := ?va2) rfl (by kernel_rfl) (by kernel_rfl) (by kernel_rfl) (fun _ _ _ h => h) (Or.inl ⟨by kernel_rfl, ?ha2⟩) ?ra2
    case ha2 => (intro w; go_simp; first | done | (with_reducible rfl))
    refine wpAny_take (i := 2) (v := ?va3) rfl (by kernel_rfl) (by kernel_rfl) (by kernel_rfl) (fun _ _ _ h => h) (Or.inl ⟨by kernel_rfl, ?ha3⟩) ?ra3
    case ha3 => (intro w; go_simp; first | done | (with_reducible rfl))
    refine wpAny_ready (rs := [3]) (by kernel_rfl) (by simp) ?_
    refine AllReady.cons rfl (fun K hK => ?_) AllReady.nil
    go_simp
    refine hK _ _ ?_
    clear hK K
    refine wpAny_ready (rs := [4]) (by kernel_rfl) (by simp) ?_
    refine AllReady.cons rfl (fun K hK => ?_) AllReady.nil
    obtain ⟨W6, hcp6, hA6, hB6⟩ := HA.out.copy d.data.toList 16 (n - 16) (n - 16) (by have := Hn.out; simp; omega) (by have := Hn.out; rw [HL3.out]; simp [headL_len]; omega)
    rw [show (⟨d.data.toList.toArray⟩ : ByteArray) = d by simp] at hcp6
    rw [if_pos (by kernel_rfl)]
    refine op_copy (.tmp 14) (.tmp 16) (.slice (some ⟨g, 16, none⟩) (n - 16) (n - 16)) (.string d) (by kernel_rfl) (by kernel_rfl) rfl (hcp6 _) ?_
    replace HB := Lib.hid (hB6 _ _ HB.out HGw.out)
    have HF := Lib.hid (show Arr W6 g 5 (frameL seq.toNat d) from by
      have e : (L3.take 16 ++ d.data.toList ++ L3.drop (16 + d.data.toList.length) : List UInt8) = frameL seq.toNat d := by
        have := Hn.out
        have hdl : d.data.toList.length = d.size := by simp
        rw [HL3.out, List.take_append_of_le_length (by rw [headL_len]; omega), List.take_of_length_le (by rw [headL_len]; omega), List.drop_of_length_le (by rw [List.length_append, headL_len, List.length_replicate]; omega), List.append_nil]
        rfl
      rw [← e]
      exact hA6)
    clear hcp6 hA6 hB6 HA
    refine hK _ _ ?_
    clear hK K
    refine wpAny_done (by kernel_rfl) ?_ _
    try go_simp
    have hcv := HF.out.conv (P := Tryz.prog) (S := 151) (U := 9) Tryz.underlying151 Tryz.underlying5 Tryz.underlying9
    rw [frameL_len, ← Hn.out] at hcv
    obtain ⟨s9, hs9⟩ : ∃ s : ByteArray, s = ⟨(frameL seq.toNat d).toArray⟩ := ⟨_, rfl⟩
    rw [← hs9] at hcv
    have Hs9 := Lib.hid hs9
    clear hs9
    go_wp2
    go_ret
    exact ⟨by rw [← Hs9.out]; rfl, HB.out⟩
end Go.Proofs.YtkhmdofeonlnpaaGreatDoor

/- SEGMENT: THE WALK OVER first. -/
namespace Go.Proofs.YtkhmdofeonlnpaaGreatDoor
open Go.RowKit
set_option maxRecDepth 100000
set_option linter.unusedVariables false
set_option linter.unusedSimpArgs false

/-- the record's length that a frame begins with -/
def sizeB (s : ByteArray) : Nat := M.unle ((s.extract 0 4).data.toList)
/-- the data of the record with whose frame s begins -/
def firstM (s : ByteArray) (next : Int) : Option ByteArray :=
  if s.size < 16 then none else if 4611686018427387904 ≤ next then none else if 65536 < sizeB s then none else if s.size - 16 < sizeB s then none
  else if (⟨(headL next.toNat (s.extract 16 (16 + sizeB s))).toArray⟩ : ByteArray) = s.extract 0 16 then some (s.extract 16 (16 + sizeB s)) else none
def firstV (s : ByteArray) (next : Int) : Value := match firstM s next with
  | some d => .tuple #[.agg #[.int .u64 next, .string d], .bool true]
  | none => .tuple #[.agg #[.int .u64 0, .string ⟨#[]⟩], .bool false]
theorem firstV_none {s : ByteArray} {next : Int} (h : firstM s next = none) : firstV s next = .tuple #[.agg #[.int .u64 0, .string ⟨#[]⟩], .bool false] := by unfold firstV; rw [h]
theorem firstV_some {s d : ByteArray} {next : Int} (h : firstM s next = some d) : firstV s next = .tuple #[.agg #[.int .u64 next, .string d], .bool true] := by unfold firstV; rw [h]
theorem whole_b (w : World) (b : ByteArray) (hl : b.size ≤ 8) : Calls Tryz.prog 215 #[.string b] w fun e w' => e = .returned (.int .u64 (M.unle b.data.toList : Int)) ∧ w = w' := by
  have := whole_of w b.data.toList (by simpa using hl)
  simpa using this

theorem free_of_box {w : World} {g : Nat} {cs : Array Value} {t : TypeId} (h : w.heap[g]? = some (.cells cs t (0, 0))) : w.frozen? ⟨g, 0, none⟩ = false ∧ w.frozen? ⟨g, 1, none⟩ = false := ⟨frozen_of_row w g 0 cs t h, frozen_of_row w g 1 cs t h⟩
theorem cell_put2 {w : World} {g : Nat} {x0 x1 : Value} {t : TypeId} (h : w.heap[g]? = some (.cells #[x0, x1] t (0, 0))) (v0 v1 : Value) :
    ((w.setCell ⟨g, 0, none⟩ v0).setCell ⟨g, 1, none⟩ v1).cell? ⟨g, 0, none⟩ = some v0 ∧ ((w.setCell ⟨g, 0, none⟩ v0).setCell ⟨g, 1, none⟩ v1).cell? ⟨g, 1, none⟩ = some v1 :=
  box2' (heap_setCell_same _ g 1 _ t _ (heap_setCell_same w g 0 _ t _ h))

set_option maxHeartbeats 4000000 in
theorem first_any (w : World) (s : ByteArray) (next : Int) (h0 : 0 ≤ next) (h1 : next ≤ 18446744073709551615) (hs : s.size ≤ 1000000000) (hT : Tabs w) :
    Calls Tryz.prog 182 #[.string s, .int .u64 next] w fun e w' => e = .returned (firstV s next) ∧ Below w.heap.size w w' := by
  have HT := Lib.hid hT
  clear hT
  have hb0 : Below w.heap.size w (w.alloc (.cells #[.int .u64 0, .string ⟨#[]⟩] 123)) := (Below.refl _ w).alloc (Nat.le_refl _) _
  have HB0 := Lib.hid hb0
  obtain ⟨z0, z1⟩ := box2' (blk_new w (.cells #[.int .u64 0, .string ⟨#[]⟩] 123))
  clear hb0
  go_enter Tryz.func182, Tryz.ntmps182
  by_cases c1 : s.size < 16
  · have c1I : (s.size : Int) < 16 := by omega
    have hv := Lib.hid (firstV_none (s := s) (next := next) (by unfold firstM; rw [if_pos c1]))
    go_wp2
    exact bodyPost_ret (v := .tuple #[.agg #[.int .u64 0, .string ⟨#[]⟩], .bool false]) (by simp [results, Tryz.results182, go_sem, z0, z1]) rfl ⟨by rw [hv.out], HB0.out⟩
  · have c1I : ¬ (s.size : Int) < 16 := by omega
    by_cases c2 : 4611686018427387904 ≤ next
    · have hv := Lib.hid (firstV_none (s := s) (next := next) (by unfold firstM; rw [if_neg c1, if_pos c2]))
      go_wp2
      exact bodyPost_ret (v := .tuple #[.agg #[.int .u64 0, .string ⟨#[]⟩], .bool false]) (by simp [results, Tryz.results182, go_sem, z0, z1]) rfl ⟨by rw [hv.out], HB0.out⟩
    · have c3 : next < 4611686018427387904 := by omega
      have hsz4 : (s.extract 0 4).size ≤ 8 := by simp; omega
      go_wp2_with fail
      refine (whole_b _ (s.extract 0 4) hsz4).mono ?_
      rintro e w1 ⟨rfl, rfl⟩
      clear hsz4
      obtain ⟨n, hn⟩ : ∃ n, sizeB s = n := ⟨_, rfl⟩
      rw [show M.unle (s.extract 0 4).data.toList = n from hn]
      by_cases c4 : 65536 < n
      · have c4I : (65536 : Int) < (n : Int) := by omega
        have hv := Lib.hid (firstV_none (s := s) (next := next) (by unfold firstM; rw [if_neg (show ¬ s.size < 16 by omega), if_neg (show ¬ 4611686018427387904 ≤ next by omega), hn, if_pos c4]))
        clear hn
        go_wp2
        exact bodyPost_ret (v := .tuple #[.agg #[.int .u64 0, .string ⟨#[]⟩], .bool false]) (by simp [results, Tryz.results182, go_sem, z0, z1]) rfl ⟨by rw [hv.out], HB0.out⟩
      · have c4I : ¬ (65536 : Int) < (n : Int) := by omega
        have c4J : (n : Int) ≤ 65536 := by omega
        by_cases c5 : s.size - 16 < n
        · have c5I : (s.size : Int) - 16 < (n : Int) := by omega
          have hv := Lib.hid (firstV_none (s := s) (next := next) (by unfold firstM; rw [if_neg (show ¬ s.size < 16 by omega), if_neg (show ¬ 4611686018427387904 ≤ next by omega), hn, if_neg (show ¬ 65536 < n by omega), if_pos c5]))
          clear hn
          go_wp2
          exact bodyPost_ret (v := .tuple #[.agg #[.int .u64 0, .string ⟨#[]⟩], .bool false]) (by simp [results, Tryz.results182, go_sem, z0, z1]) rfl ⟨by rw [hv.out], HB0.out⟩
        · have c5I : ¬ (s.size : Int) - 16 < (n : Int) := by omega
          have c5J : (n : Int) ≤ (s.size : Int) - 16 := by omega
          have c5K : 16 + n ≤ s.size := by omega
          have c5L : (16 : Int) + (n : Int) ≤ (s.size : Int) := by omega
          have hsl : ∀ W, (Instr.slice 9 (.string s) (some (.int .i64 16)) (some (.int .i64 (16 + (n : Int)))) none).run Tryz.prog W = .ok (.string (s.extract 16 (16 + n))) W := fun W => by
            have e : (16 + (n : Int)).toNat = 16 + n := by omega
            have h1 : (0 : Int) ≤ 16 + (n : Int) := by omega
            have h2 : (16 : Int) ≤ 16 + (n : Int) := by omega
            simp [Instr.slice, Instr.sliceBounds, Instr.sliceBound, asIntOf, run_underlying Tryz.underlying9, c5L, h1, h2, e]
          obtain ⟨d, hd⟩ : ∃ d, s.extract 16 (16 + n) = d := ⟨_, rfl⟩
          rw [hd] at hsl
          have Hd := Lib.hid (show d.size ≤ 1000000000 by rw [← hd]; simp; omega)
          obtain ⟨W2, hW2⟩ : ∃ W, W = (w.alloc (.cells #[.int .u64 0, .string ⟨#[]⟩] 123)).alloc (.cells #[.int .u64 next, .string d] 123) := ⟨_, rfl⟩
          have hbW : Below w.heap.size w W2 := by rw [hW2]; exact HB0.out.alloc (by simp) _
          have hz2 : W2.heap[w.heap.size]? = some (.cells #[.int .u64 0, .string ⟨#[]⟩] 123 (0, 0)) := by rw [hW2]; exact blk_alloc (blk_new w _) _
          have hr2 : W2.heap[w.heap.size + 1]? = some (.cells #[.int .u64 next, .string d] 123 (0, 0)) := by
            have := blk_new (w.alloc (.cells #[.int .u64 0, .string ⟨#[]⟩] 123)) (.cells #[.int .u64 next, .string d] 123)
            rw [hW2]; simpa using this
          replace HT := Lib.hid (HT.out.under hbW)
          have HB := Lib.hid hbW
          have HZ := Lib.hid hz2
          have HR := Lib.hid hr2
          clear hbW hz2 hr2 z0 z1
          go_upto_region 7 with (fail)
          rw [← hW2]
          clear hsl
          by_cases c6 : (⟨(headL next.toNat d).toArray⟩ : ByteArray) = s.extract 0 16
          · have hv := Lib.hid (firstV_some (s := s) (next := next) (d := d) (by unfold firstM; rw [if_neg (show ¬ s.size < 16 by omega), if_neg (show ¬ 4611686018427387904 ≤ next by omega), hn, if_neg (show ¬ 65536 < n by omega), if_neg (show ¬ s.size - 16 < n by omega), hd, if_pos c6]))
            have e6 := str_is c6
            rw [show (⟨(headL next.toNat d).toArray⟩ : ByteArray).toList = headL next.toNat d by simp] at e6
            clear hn hd hW2 c6
            refine wp_region_any (by kernel_rfl) ?_
            obtain ⟨X9, hX⟩ : ∃ X, W2.drew = X := ⟨_, rfl⟩
            change wpAny _ _ _ _ _ _ _ (W2.drew)
            rw [hX]
            have hbX : Below W2.heap.size W2 X9 := by rw [← hX]; exact (Below.refl _ W2).drew
            replace HZ := Lib.hid ((hbX.block _ (Array.getElem?_eq_some_iff.1 HZ.out).1).trans HZ.out)
            replace HR := Lib.hid ((hbX.block _ (Array.getElem?_eq_some_iff.1 HR.out).1).trans HR.out)
            replace HT := Lib.hid (HT.out.under hbX)
            replace HB := Lib.hid (HB.out.trans (hbX.mono HB.out.size))
            clear hbX hX
            obtain ⟨r0, r1⟩ := box2' HR.out
            refine wpAny_take (i := 2) (v := ?vy1) rfl (by kernel_rfl) (by kernel_rfl) (by kernel_rfl) (fun _ _ _ h => h) (Or.inl ⟨by kernel_rfl, ?hy1⟩) ?ry1
            case hy1 => (intro w; go_simp; first | done | (with_reducible rfl))
            refine wpAny_take (i := 3) (v := ?vy2) rfl (by kernel_rfl) (by kernel_rfl) (by kernel_rfl) (fun _ _ _ h => h) (Or.inl ⟨by kernel_rfl, ?hy2⟩) ?ry2
            case hy2 => (intro w; go_simp; first | done | (with_reducible rfl))
            refine wpAny_ready (rs := [0]) (by kernel_rfl) (by simp) ?_
            refine AllReady.cons rfl (fun K hK => ?_) AllReady.nil
            go_simp
            refine hK _ _ ?_
            clear hK K
            refine wpAny_ready (rs := [1]) (by kernel_rfl) (by simp) ?_
            refine AllReady.cons rfl (fun K hK => ?_) AllReady.nil
            go_simp
            go_at_call 216
            refine (head_any _ next d h0 h1 Hd.out HT.out).mono ?_
            rintro e w3 ⟨rfl, hb3⟩
            clear r0 r1
            replace HZ := Lib.hid ((hb3.block _ (Array.getElem?_eq_some_iff.1 HZ.out).1).trans HZ.out)
            replace HR := Lib.hid ((hb3.block _ (Array.getElem?_eq_some_iff.1 HR.out).1).trans HR.out)
            replace HB := Lib.hid (HB.out.trans (hb3.mono HB.out.size))
            clear hb3
            obtain ⟨r0, r1⟩ := box2' HR.out
            obtain ⟨z0, z1⟩ := box2' HZ.out
            have fz := free_of_box HZ.out
            have hlz : w.heap.size < w3.heap.size := (Array.getElem?_eq_some_iff.1 HZ.out).1
            have hs0 := Lib.hid (cell_put2 HZ.out (.int .u64 next) (.string d)).1
            have hs1 := Lib.hid (cell_put2 HZ.out (.int .u64 next) (.string d)).2
            have Hset0 := hs0
            have Hset1 := hs1
            have HB5 := Lib.hid ((HB.out.setCell (p := ⟨w.heap.size, 0, none⟩) (Nat.le_refl _) (.int .u64 next)).setCell (p := ⟨w.heap.size, 1, none⟩) (Nat.le_refl _) (.string d))
            clear hs0 hs1
            refine hK _ _ ?_
            clear hK K
            refine wpAny_take (i := 4) (v := ?vy3) rfl (by kernel_rfl) (by kernel_rfl) (by kernel_rfl) (fun _ _ _ h => h) (Or.inl ⟨by kernel_rfl, ?hy3⟩) ?ry3
            case hy3 => (intro w; go_simp; first | done | (with_reducible rfl))
            refine wpAny_done (by kernel_rfl) ?_ _
            try go_simp
            go_wp2
            exact bodyPost_ret (v := .tuple #[.agg #[.int .u64 next, .string d], .bool true]) (by simp [results, Tryz.results182, go_sem, z0, z1, Hset0.out, Hset1.out]) rfl ⟨by rw [hv.out], HB5.out⟩
          · have hv := Lib.hid (firstV_none (s := s) (next := next) (by unfold firstM; rw [if_neg (show ¬ s.size < 16 by omega), if_neg (show ¬ 4611686018427387904 ≤ next by omega), hn, if_neg (show ¬ 65536 < n by omega), if_neg (show ¬ s.size - 16 < n by omega), hd, if_neg c6]))
            have e6 := str_not c6
            rw [show (⟨(headL next.toNat d).toArray⟩ : ByteArray).toList = headL next.toNat d by simp] at e6
            clear hn hd hW2 c6
            refine wp_region_any (by kernel_rfl) ?_
            obtain ⟨X9, hX⟩ : ∃ X, W2.drew = X := ⟨_, rfl⟩
            change wpAny _ _ _ _ _ _ _ (W2.drew)
            rw [hX]
            have hbX : Below W2.heap.size W2 X9 := by rw [← hX]; exact (Below.refl _ W2).drew
            replace HZ := Lib.hid ((hbX.block _ (Array.getElem?_eq_some_iff.1 HZ.out).1).trans HZ.out)
            replace HR := Lib.hid ((hbX.block _ (Array.getElem?_eq_some_iff.1 HR.out).1).trans HR.out)
            replace HT := Lib.hid (HT.out.under hbX)
            replace HB := Lib.hid (HB.out.trans (hbX.mono HB.out.size))
            clear hbX hX
            obtain ⟨r0, r1⟩ := box2' HR.out
            refine wpAny_take (i := 2) (v := ?vn1) rfl (by kernel_rfl) (by kernel_rfl) (by kernel_rfl) (fun _ _ _ h => h) (Or.inl ⟨by kernel_rfl, ?hn1⟩) ?rn1
            case hn1 => (intro w; go_simp; first | done | (with_reducible rfl))
            refine wpAny_take (i := 3) (v := ?vn2) rfl (by kernel_rfl) (by kernel_rfl) (by kernel_rfl) (fun _ _ _ h => h) (Or.inl ⟨by kernel_rfl, ?hn2⟩) ?rn2
            case hn2 => (intro w; go_simp; first | done | (with_reducible rfl))
            refine wpAny_ready (rs := [0]) (by kernel_rfl) (by simp) ?_
            refine AllReady.cons rfl (fun K hK => ?_) AllReady.nil
            go_simp
            refine hK _ _ ?_
            clear hK K
            refine wpAny_ready (rs := [1]) (by kernel_rfl) (by simp) ?_
            refine AllReady.cons rfl (fun K hK => ?_) AllReady.nil
            go_simp
            go_at_call 216
            refine (head_any _ next d h0 h1 Hd.out HT.out).mono ?_
            rintro e w3 ⟨rfl, hb3⟩
            clear r0 r1
            replace HZ := Lib.hid ((hb3.block _ (Array.getElem?_eq_some_iff.1 HZ.out).1).trans HZ.out)
            replace HR := Lib.hid ((hb3.block _ (Array.getElem?_eq_some_iff.1 HR.out).1).trans HR.out)
            replace HB := Lib.hid (HB.out.trans (hb3.mono HB.out.size))
            clear hb3
            obtain ⟨r0, r1⟩ := box2' HR.out
            obtain ⟨z0, z1⟩ := box2' HZ.out
            have fz := free_of_box HZ.out
            have hlz : w.heap.size < w3.heap.size := (Array.getElem?_eq_some_iff.1 HZ.out).1
            have hs0 := Lib.hid (cell_put2 HZ.out (.int .u64 0) (.string ⟨#[]⟩)).1
            have hs1 := Lib.hid (cell_put2 HZ.out (.int .u64 0) (.string ⟨#[]⟩)).2
            have Hset0 := hs0
            have Hset1 := hs1
            have HB5 := Lib.hid ((HB.out.setCell (p := ⟨w.heap.size, 0, none⟩) (Nat.le_refl _) (.int .u64 0)).setCell (p := ⟨w.heap.size, 1, none⟩) (Nat.le_refl _) (.string ⟨#[]⟩))
            clear hs0 hs1
            refine hK _ _ ?_
            clear hK K
            refine wpAny_take (i := 4) (v := ?vn3) rfl (by kernel_rfl) (by kernel_rfl) (by kernel_rfl) (fun _ _ _ h => h) (Or.inl ⟨by kernel_rfl, ?hn3⟩) ?rn3
            case hn3 => (intro w; go_simp; first | done | (with_reducible rfl))
            refine wpAny_done (by kernel_rfl) ?_ _
            try go_simp
            go_wp2
            exact bodyPost_ret (v := .tuple #[.agg #[.int .u64 0, .string ⟨#[]⟩], .bool false]) (by simp [results, Tryz.results182, go_sem, z0, z1, Hset0.out, Hset1.out]) rfl ⟨by rw [hv.out], HB5.out⟩
end Go.Proofs.YtkhmdofeonlnpaaGreatDoor
