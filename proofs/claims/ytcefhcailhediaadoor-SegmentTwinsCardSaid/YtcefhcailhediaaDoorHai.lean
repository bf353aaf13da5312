/-
  THE SHELF's CONTRACTS OF strconv.toError AT THIS DUMP (laid by the kit's lay-shelf and lay-plain).
-/
import Derived.Test.YtcefhcailhediaaDoorHah
import Derived.Shelf.LaysC
import Derived.Shelf.Strconv.ToError
import Derived.Shelf.Strconv.ToErrorRange
import Derived.Test.YtcefhcailhediaaDoorProg
namespace Go.Proofs
open Go.Shelf
def Tryd.laysC245_ren : Go.Shelf.Ren := ⟨fun | 245 => 76 | 279 => 82 | 280 => 83 | 281 => 84 | 282 => 85 | 316 => 86 | 171 => 88 | 205 => 87 | 243 => 89 | 246 => 90 | 283 => 91 | 284 => 92 | 285 => 93 | 286 => 94 | 129 => 96 | 317 => 95 | 318 => 97 | 319 => 98 | 320 => 99 | 337 => 100 | 338 => 101 | n => n, fun | 9 => 9 | 3 => 3 | 75 => 124 | 167 => 142 | 4 => 4 | 168 => 144 | 210 => 149 | 37 => 118 | 0 => 0 | 127 => 152 | 145 => 155 | 143 => 153 | 2 => 2 | 171 => 157 | 53 => 28 | 5 => 5 | 173 => 160 | 212 => 164 | 51 => 135 | 20 => 20 | 213 => 165 | 46 => 137 | 232 => 168 | 233 => 169 | 80 => 170 | n => n, fun | 15 => 2 | 16 => 3 | 17 => 4 | 18 => 5 | 19 => 6 | n => n⟩
theorem Tryd.laysC245 : Go.Proofs.LaysC.n245 Tryd.prog Tryd.laysC245_ren := {
  mixed := by kernel_rfl
  f129 := Tryd.func96.trans (congrArg some (by kernel_rfl))
  f171 := Tryd.func88.trans (congrArg some (by kernel_rfl))
  f205 := Tryd.func87.trans (congrArg some (by kernel_rfl))
  f243 := Tryd.func89.trans (congrArg some (by kernel_rfl))
  f245 := Tryd.func76.trans (congrArg some (by kernel_rfl))
  f246 := Tryd.func90.trans (congrArg some (by kernel_rfl))
  f279 := Tryd.func82.trans (congrArg some (by kernel_rfl))
  f280 := Tryd.func83.trans (congrArg some (by kernel_rfl))
  f281 := Tryd.func84.trans (congrArg some (by kernel_rfl))
  f282 := Tryd.func85.trans (congrArg some (by kernel_rfl))
  f283 := Tryd.func91.trans (congrArg some (by kernel_rfl))
  f284 := Tryd.func92.trans (congrArg some (by kernel_rfl))
  f285 := Tryd.func93.trans (congrArg some (by kernel_rfl))
  f286 := Tryd.func94.trans (congrArg some (by kernel_rfl))
  f316 := Tryd.func86.trans (congrArg some (by kernel_rfl))
  f317 := Tryd.func95.trans (congrArg some (by kernel_rfl))
  f318 := Tryd.func97.trans (congrArg some (by kernel_rfl))
  f319 := Tryd.func98.trans (congrArg some (by kernel_rfl))
  f320 := Tryd.func99.trans (congrArg some (by kernel_rfl))
  f337 := Tryd.func100.trans (congrArg some (by kernel_rfl))
  f338 := Tryd.func101.trans (congrArg some (by kernel_rfl))
  t0 := Tryd.underlying0
  a0 := Tryd.isAgg0
  z0 := Tryd.sizeOf0
  v0 := Tryd.zeroValue0
  t2 := Tryd.underlying2
  a2 := Tryd.isAgg2
  z2 := Tryd.sizeOf2
  v2 := Tryd.zeroValue2
  t3 := Tryd.underlying3
  a3 := Tryd.isAgg3
  z3 := Tryd.sizeOf3
  v3 := Tryd.zeroValue3
  t4 := Tryd.underlying4
  a4 := Tryd.isAgg4
  z4 := Tryd.sizeOf4
  v4 := Tryd.zeroValue4
  t5 := Tryd.underlying5
  a5 := Tryd.isAgg5
  z5 := Tryd.sizeOf5
  v5 := Tryd.zeroValue5
  t9 := Tryd.underlying9
  a9 := Tryd.isAgg9
  z9 := Tryd.sizeOf9
  v9 := Tryd.zeroValue9
  t20 := Tryd.underlying20
  a20 := Tryd.isAgg20
  z20 := Tryd.sizeOf20
  v20 := Tryd.zeroValue20
  t37 := Tryd.underlying118
  a37 := Tryd.isAgg118
  z37 := Tryd.sizeOf118
  v37 := Tryd.zeroValue118
  t46 := Tryd.underlying137
  a46 := Tryd.isAgg137
  z46 := Tryd.sizeOf137
  v46 := Tryd.zeroValue137
  t51 := Tryd.underlying135
  a51 := Tryd.isAgg135
  z51 := Tryd.sizeOf135
  v51 := Tryd.zeroValue135
  t53 := Tryd.underlying28
  a53 := Tryd.isAgg28
  z53 := Tryd.sizeOf28
  v53 := Tryd.zeroValue28
  t75 := Tryd.underlying124
  a75 := Tryd.isAgg124
  z75 := Tryd.sizeOf124
  v75 := Tryd.zeroValue124
  t127 := Tryd.underlying152
  a127 := Tryd.isAgg152
  z127 := Tryd.sizeOf152
  v127 := Tryd.zeroValue152
  t143 := Tryd.underlying153
  a143 := Tryd.isAgg153
  z143 := Tryd.sizeOf153
  v143 := Tryd.zeroValue153
  t145 := Tryd.underlying155
  a145 := Tryd.isAgg155
  z145 := Tryd.sizeOf155
  v145 := Tryd.zeroValue155
  t167 := Tryd.underlying142
  a167 := Tryd.isAgg142
  z167 := Tryd.sizeOf142
  v167 := Tryd.zeroValue142
  t168 := Tryd.underlying144
  a168 := Tryd.isAgg144
  z168 := Tryd.sizeOf144
  v168 := Tryd.zeroValue144
  t171 := Tryd.underlying157
  a171 := Tryd.isAgg157
  z171 := Tryd.sizeOf157
  v171 := Tryd.zeroValue157
  t173 := Tryd.underlying160
  a173 := Tryd.isAgg160
  z173 := Tryd.sizeOf160
  v173 := Tryd.zeroValue160
  t210 := Tryd.underlying149
  a210 := Tryd.isAgg149
  z210 := Tryd.sizeOf149
  v210 := Tryd.zeroValue149
  t212 := Tryd.underlying164
  a212 := Tryd.isAgg164
  z212 := Tryd.sizeOf164
  v212 := Tryd.zeroValue164
  t213 := Tryd.underlying165
  a213 := Tryd.isAgg165
  z213 := Tryd.sizeOf165
  t232 := Tryd.underlying168
  a232 := Tryd.isAgg168
  z232 := Tryd.sizeOf168
  v232 := Tryd.zeroValue168
  t233 := Tryd.underlying169
  a233 := Tryd.isAgg169
  z233 := Tryd.sizeOf169
  v233 := Tryd.zeroValue169
  g15 := by kernel_rfl
  g16 := by kernel_rfl
  g17 := by kernel_rfl
  g18 := by kernel_rfl
  g19 := by kernel_rfl
  t80 := Tryd.underlying170
  a80 := Tryd.isAgg170
  z80 := Tryd.sizeOf170
  v80 := Tryd.zeroValue170
  i0 := by kernel_rfl
  i2 := by kernel_rfl
  i3 := by kernel_rfl
  i4 := by kernel_rfl
  i5 := by kernel_rfl
  i9 := by kernel_rfl
  i20 := by kernel_rfl
  i37 := by kernel_rfl
  i46 := by kernel_rfl
  i51 := by kernel_rfl
  i53 := by kernel_rfl
  i75 := by kernel_rfl
  i80 := by kernel_rfl
  i127 := by kernel_rfl
  i143 := by kernel_rfl
  i145 := by kernel_rfl
  i167 := by kernel_rfl
  i168 := by kernel_rfl
  i171 := by kernel_rfl
  i173 := by kernel_rfl
  i210 := by kernel_rfl
  i212 := by kernel_rfl
  i232 := by kernel_rfl
  i233 := by kernel_rfl
  m15 := by kernel_rfl
  m16 := by kernel_rfl
  m17 := by kernel_rfl
  m18 := by kernel_rfl
  m19 := by kernel_rfl
  c0 := by kernel_rfl
  c2 := by kernel_rfl
  c3 := by kernel_rfl
  c4 := by kernel_rfl
  c5 := by kernel_rfl
  c9 := by kernel_rfl
  c20 := by kernel_rfl
  c37 := by kernel_rfl
  c46 := by kernel_rfl
  c51 := by kernel_rfl
  c53 := by kernel_rfl
  c75 := by kernel_rfl
  c80 := by kernel_rfl
  c127 := by kernel_rfl
  c143 := by kernel_rfl
  c145 := by kernel_rfl
  c167 := by kernel_rfl
  c168 := by kernel_rfl
  c171 := by kernel_rfl
  c173 := by kernel_rfl
  c210 := by kernel_rfl
  c212 := by kernel_rfl
  c213 := by kernel_rfl
  c232 := by kernel_rfl
  c233 := by kernel_rfl }
open Go.RowKit in
/-- strconv.toError, at the inner package's ErrSyntax: 'syntaxError(fn, s)' as an error: A *NumError IN A NEW BLOCK. (LAID: no walk: one application.) -/
theorem Tryd.strconv_toError_syntax (fn s : ByteArray) (base bits : Int) (ev : Value) (w : World) (hlim : s.size ≤ 281474976710656) (hv : w.cell? ⟨2, 0, none⟩ = some ev) (hev : ev = .nilIface ∨ ∃ te pe, ev = .iface te pe) :
    Calls Tryd.prog 76 #[.string fn, .string s, .int .i64 base, .int .i64 bits, .iface 142 (.int .i64 2)] w fun e w' => ∃ N, e = .returned (.iface 144 (.pointer (some ⟨N, 0, none⟩))) ∧ w.heap.size ≤ N ∧ w'.heap[N]? = some (.cells #[.string fn, .string s, ev] 149 (0, 0)) ∧ Below w.heap.size w w' := Any.strconv_toError_syntax Tryd.laysC245 fn s base bits ev w hlim hv hev
open Go.RowKit in
/-- strconv.toError, at the inner package's ErrRange: 'rangeError(fn, s)' as an error: A *NumError IN A NEW BLOCK. (LAID: no walk: one application.) -/
theorem Tryd.strconv_toError_range (fn s : ByteArray) (base bits : Int) (ev : Value) (w : World) (hlim : s.size ≤ 281474976710656) (hv : w.cell? ⟨3, 0, none⟩ = some ev) (hev : ev = .nilIface ∨ ∃ te pe, ev = .iface te pe) :
    Calls Tryd.prog 76 #[.string fn, .string s, .int .i64 base, .int .i64 bits, .iface 142 (.int .i64 1)] w fun e w' => ∃ N, e = .returned (.iface 144 (.pointer (some ⟨N, 0, none⟩))) ∧ w.heap.size ≤ N ∧ w'.heap[N]? = some (.cells #[.string fn, .string s, ev] 149 (0, 0)) ∧ Below w.heap.size w w' := Any.strconv_toError_range Tryd.laysC245 fn s base bits ev w hlim hv hev
end Go.Proofs

/- SEGMENT: THE WALKS OVER strconv.ParseUint at base 16, number. -/
namespace Go.Proofs.YtcefhcailhediaaDoor
open Go.RowKit
set_option maxRecDepth 100000
set_option linter.unusedVariables false
set_option linter.unusedSimpArgs false

/-- the table of the checksums -/
def nibs : Array Nat := #[0x00000000, 0x1db71064, 0x3b6e20c8, 0x26d930ac, 0x76dc4190, 0x6b6b51f4, 0x4db26158, 0x5005713c, 0xedb88320, 0xf00f9344, 0xd6d6a3e8, 0xcb61b38c, 0x9b64c2b0, 0x86d3d2d4, 0xa00ae278, 0xbdbdf21c]
def nib (i : Nat) : Nat := nibs.getD i 0
theorem nib_lt : ∀ i : Fin 16, nib i.1 < 4294967296 := by decide
/-- the package-level variables that the program reads -/
structure Tabs (w : World) : Prop where
  t : ∀ i, i < 16 → w.cell? ⟨0, i, none⟩ = some (.int .u32 (nib i : Int))
  e2 : ∃ te pe, w.cell? ⟨2, 0, none⟩ = some (.iface te pe)
  e3 : ∃ te pe, w.cell? ⟨3, 0, none⟩ = some (.iface te pe)
  sz : 3 < w.heap.size
theorem Tabs.under {w w' : World} (h : Tabs w) (hb : Below w.heap.size w w') : Tabs w' where
  t := fun i hi => (hb.cell (p := ⟨0, i, none⟩) (by have := h.sz; show 0 < _; omega)).trans (h.t i hi)
  e2 := by obtain ⟨te, pe, e⟩ := h.e2; exact ⟨te, pe, (hb.cell (p := ⟨2, 0, none⟩) (by have := h.sz; show 2 < _; omega)).trans e⟩
  e3 := by obtain ⟨te, pe, e⟩ := h.e3; exact ⟨te, pe, (hb.cell (p := ⟨3, 0, none⟩) (by have := h.sz; show 3 < _; omega)).trans e⟩
  sz := Nat.lt_of_lt_of_le h.sz hb.size

/-- what the public ParseUint answers -/
def Pq (l : List UInt8) (v : Int) (err : Value) : Prop := 0 ≤ v ∧ v ≤ 18446744073709551615 ∧ (err = .nilIface ∨ ∃ N, err = .iface 144 (.pointer (some ⟨N, 0, none⟩))) ∧
  ∀ m, m < 18446744073709551616 → l = nameL m → err = .nilIface ∧ v = (m : Int)

set_option maxHeartbeats 1000000 in
theorem parse_any (w : World) (l : List UInt8) (hl : l.length ≤ 1000000) (hT : Tabs w) :
    Calls Tryd.prog 58 #[.string ⟨l.toArray⟩, .int .i64 16, .int .i64 64] w fun e w' => (∃ v err, e = .returned (.tuple #[.int .u64 v, err]) ∧ Pq l v err) ∧ Below w.heap.size w w' := by
  have HT := Lib.hid hT
  have hsz : (⟨l.toArray⟩ : ByteArray).size ≤ 281474976710656 := by simp [ByteArray.size]; omega
  have Hsz := Lib.hid hsz
  clear hT hsz
  go_enter Tryd.func58, Tryd.ntmps58
  go_wp2_with fail
  refine (iparse_any w l (by omega)).mono ?_
  rintro e w1 ⟨⟨v, err, rfl, hv0, hv1, herr, hnm⟩, hb⟩
  have Hb := Lib.hid hb
  have Hnm := Lib.hid hnm
  have HT1 := Lib.hid (HT.out.under hb)
  clear hb hnm
  rcases herr with rfl | rfl | rfl
  · go_wp2
    go_ret2
    exact ⟨⟨_, _, rfl, hv0, hv1, .inl rfl, fun m h1 h2 => ⟨rfl, (Hnm.out m h1 h2).2⟩⟩, Hb.out⟩
  · obtain ⟨te, pe, he⟩ := HT1.out.e3
    have Hte := Lib.hid (Tryd.strconv_toError_range ⟨#[80, 97, 114, 115, 101, 85, 105, 110, 116]⟩ ⟨l.toArray⟩ 16 64 _ w1 Hsz.out he (.inr ⟨te, pe, rfl⟩))
    clear he
    go_wp2_with fail
    refine (Hte.out).mono ?_
    rintro e w2 ⟨N, rfl, _, _, hb2⟩
    have Hb2 := Lib.hid (Hb.out.trans (hb2.mono Hb.out.size))
    clear hb2
    go_wp2
    go_ret2
    exact ⟨⟨_, _, rfl, hv0, hv1, .inr ⟨N, rfl⟩, fun m h1 h2 => absurd (Hnm.out m h1 h2).1 (by simp)⟩, Hb2.out⟩
  · obtain ⟨te, pe, he⟩ := HT1.out.e2
    have Hte := Lib.hid (Tryd.strconv_toError_syntax ⟨#[80, 97, 114, 115, 101, 85, 105, 110, 116]⟩ ⟨l.toArray⟩ 16 64 _ w1 Hsz.out he (.inr ⟨te, pe, rfl⟩))
    clear he
    go_wp2_with fail
    refine (Hte.out).mono ?_
    rintro e w2 ⟨N, rfl, _, _, hb2⟩
    have Hb2 := Lib.hid (Hb.out.trans (hb2.mono Hb.out.size))
    clear hb2
    go_wp2
    go_ret2
    exact ⟨⟨_, _, rfl, hv0, hv1, .inr ⟨N, rfl⟩, fun m h1 h2 => absurd (Hnm.out m h1 h2).1 (by simp)⟩, Hb2.out⟩

theorem hexd_inj : ∀ x y : Fin 16, hexd x.1 = hexd y.1 → x = y := by decide
theorem nameL_inj {m n : Nat} (hm : m < 18446744073709551616) (hn : n < 18446744073709551616) (h : nameL m = nameL n) : m = n := by
  have hd : ∀ k, k < 16 → m / 16 ^ (15 - k) % 16 = n / 16 ^ (15 - k) % 16 := fun k hk => by
    have hl : ∀ x, (nameL x).length = 16 := fun x => hexL_len x 16
    have h1 := hexL_at m 16 k (by rw [hexL_len]; exact hk)
    have h2 := hexL_at n 16 k (by rw [hexL_len]; exact hk)
    have h3 : (nameL m)[k]'(by rw [hl]; exact hk) = (nameL n)[k]'(by rw [hl]; exact hk) := by simp only [h]
    have h4 : hexd (m / 16 ^ (15 - k) % 16) = hexd (n / 16 ^ (15 - k) % 16) := by
      have e1 : (nameL m)[k]'(by rw [hl]; exact hk) = hexd (m / 16 ^ (16 - 1 - k) % 16) := h1
      have e2 : (nameL n)[k]'(by rw [hl]; exact hk) = hexd (n / 16 ^ (16 - 1 - k) % 16) := h2
      rw [e1, e2] at h3
      exact h3
    have := hexd_inj ⟨_, Nat.mod_lt (m / 16 ^ (15 - k)) (by decide)⟩ ⟨_, Nat.mod_lt (n / 16 ^ (15 - k)) (by decide)⟩ h4
    simpa using this
  have step : ∀ k, k ≤ 16 → m / 16 ^ (16 - k) = n / 16 ^ (16 - k) := by
    intro k
    induction k with
    | zero => intro _; rw [Nat.div_eq_of_lt (by simpa using hm), Nat.div_eq_of_lt (by simpa using hn)]
    | succ k ih =>
      intro hk
      have h1 := ih (by omega)
      have h2 := hd k (by omega)
      rw [show 16 - k = (15 - k) + 1 by omega, Nat.pow_succ, ← Nat.div_div_eq_div_mul, ← Nat.div_div_eq_div_mul] at h1
      rw [show 16 - (k + 1) = 15 - k by omega]
      omega
  simpa using step 16 (by omega)
open Classical in
/-- the number of a file's name -/
noncomputable def numB (s : ByteArray) : Option Nat := if h : ∃ m, m ≤ 4611686018427387904 ∧ s = nameB m then some h.choose else none
theorem numB_name {m : Nat} (h : m ≤ 4611686018427387904) : numB (nameB m) = some m := by
  have hex : ∃ k, k ≤ 4611686018427387904 ∧ nameB m = nameB k := ⟨m, h, rfl⟩
  unfold numB
  rw [dif_pos hex]
  have := hex.choose_spec
  congr 1
  refine nameL_inj (by omega) (by omega) ?_
  exact congrArg (fun b : ByteArray => b.data.toList) this.2.symm
theorem numB_some {s : ByteArray} {m : Nat} (h : numB s = some m) : m ≤ 4611686018427387904 ∧ s = nameB m := by
  unfold numB at h
  split at h
  · rename_i hex
    injection h with h
    subst h
    exact hex.choose_spec
  · cases h
theorem numB_none {s : ByteArray} (h : numB s = none) (m : Nat) (hm : m ≤ 4611686018427387904) : s ≠ nameB m := fun e => by rw [e, numB_name hm] at h; cases h
/-- what number answers -/
noncomputable def numV (s : ByteArray) : Value := match numB s with
  | some n => .tuple #[.int .u64 (n : Int), .bool true]
  | none => .tuple #[.int .u64 0, .bool false]

set_option maxHeartbeats 1000000 in
theorem number_any (w : World) (s : ByteArray) (hl : s.size ≤ 1000000) (hT : Tabs w) :
    Calls Tryd.prog 49 #[.string s] w fun e w' => e = .returned (numV s) ∧ Below w.heap.size w w' := by
  obtain ⟨l, hs⟩ : ∃ l : List UInt8, s = ⟨l.toArray⟩ := ⟨s.data.toList, by simp⟩
  have hll : l.length ≤ 1000000 := by rw [hs] at hl; simpa [ByteArray.size] using hl
  have HT := Lib.hid hT
  clear hT
  go_enter Tryd.func49, Tryd.ntmps49
  rw [hs]
  go_wp2_with fail
  refine (parse_any w l hll HT.out).mono ?_
  rintro e w1 ⟨⟨v, err, rfl, hv0, hv1, herr, hnm⟩, hb⟩
  have Hb := Lib.hid hb
  clear hb
  rcases herr with rfl | ⟨N, rfl⟩
  · by_cases hbig : v ≤ 4611686018427387904
    · have hbig2 : ¬ (4611686018427387904 : Int) < v := by omega
      have Hnm := Lib.hid hnm
      have Hs := Lib.hid hs
      clear hnm hs
      go_wp2_with fail
      refine (name_any w1 v hv0 hv1).mono ?_
      rintro e w2 ⟨rfl, hb2⟩
      have Hb2 := Lib.hid (Hb.out.trans (hb2.mono Hb.out.size))
      clear hb2
      by_cases he : nameB v.toNat = ⟨l.toArray⟩
      · have hn : numV s = .tuple #[.int .u64 v, .bool true] := by
          unfold numV
          rw [Hs.out, ← he, numB_name (by omega)]
          simp only
          rw [Int.toNat_of_nonneg hv0]
        have e1 := str_is he
        rw [show (⟨l.toArray⟩ : ByteArray).toList = l by simp] at e1
        have Hn := Lib.hid hn
        clear hn he
        go_wp2
        go_ret2
        exact ⟨by rw [← Hs.out, Hn.out]; rfl, Hb2.out⟩
      · have hn : numV s = .tuple #[.int .u64 0, .bool false] := by
          have : numB s = none := by
            cases h : numB s with
            | none => rfl
            | some m =>
              obtain ⟨h1, h2⟩ := numB_some h
              rw [Hs.out] at h2
              have h3 : l = nameL m := by unfold nameB at h2; simpa using h2
              have h4 := (Hnm.out m (by omega) h3).2
              exact absurd (by rw [h4, Int.toNat_natCast, ← h2]) he
          unfold numV
          rw [this]
        have e1 := str_not he
        rw [show (⟨l.toArray⟩ : ByteArray).toList = l by simp] at e1
        have Hn := Lib.hid hn
        clear hn he
        go_wp2
        go_ret2
        exact ⟨by rw [← Hs.out, Hn.out]; rfl, Hb2.out⟩
    · have hbig2 : (4611686018427387904 : Int) < v := by omega
      have hn : numV s = .tuple #[.int .u64 0, .bool false] := by
        have : numB s = none := by
          cases h : numB s with
          | none => rfl
          | some m =>
            obtain ⟨h1, h2⟩ := numB_some h
            rw [hs] at h2
            have h3 : l = nameL m := by unfold nameB at h2; simpa using h2
            have h4 := (hnm m (by omega) h3).2
            omega
        unfold numV
        rw [this]
      have Hn := Lib.hid hn
      have Hs := Lib.hid hs
      clear hn hnm hs
      go_wp2
      go_ret2
      exact ⟨by rw [← Hs.out, Hn.out]; rfl, Hb.out⟩
  · have hn : numV s = .tuple #[.int .u64 0, .bool false] := by
      have : numB s = none := by
        cases h : numB s with
        | none => rfl
        | some m =>
          obtain ⟨h1, h2⟩ := numB_some h
          rw [hs] at h2
          have h3 : l = nameL m := by unfold nameB at h2; simpa using h2
          have h4 := (hnm m (by omega) h3).1
          cases h4
      unfold numV
      rw [this]
    have Hn := Lib.hid hn
    have Hs := Lib.hid hs
    clear hn hnm hs
    go_wp2
    go_ret2
    exact ⟨by rw [← Hs.out, Hn.out]; rfl, Hb.out⟩
end Go.Proofs.YtcefhcailhediaaDoor

/- SEGMENT: THE WALK OVER checksum. -/
namespace Go.Proofs.YtcefhcailhediaaDoor
open Go.RowKit
set_option maxRecDepth 100000
set_option linter.unusedVariables false
set_option linter.unusedSimpArgs false

def nst (s : Nat) : Nat := (s / 16) ^^^ nib (s % 16)
def crc1 (s : Nat) (c : UInt8) : Nat := nst (nst (s ^^^ c.toNat))
def crcL (s : Nat) (l : List UInt8) : Nat := l.foldl crc1 s
def crcP (s : Nat) (ss : List ByteArray) : Nat := ss.foldl (fun s b => crcL s b.data.toList) s
theorem nst_lt {s : Nat} (h : s < 4294967296) : nst s < 4294967296 :=
  Nat.xor_lt_two_pow (n := 32) (by omega) (nib_lt ⟨s % 16, Nat.mod_lt _ (by decide)⟩)
theorem xor_lt {s c : Nat} (h : s < 4294967296) (hc : c < 256) : s ^^^ c < 4294967296 := Nat.xor_lt_two_pow (n := 32) h (by omega)
theorem crc1_lt {s : Nat} (h : s < 4294967296) (c : UInt8) : crc1 s c < 4294967296 := nst_lt (nst_lt (xor_lt h c.toNat_lt))
theorem crcL_lt : ∀ (l : List UInt8) {s : Nat}, s < 4294967296 → crcL s l < 4294967296
  | [], s, h => h
  | c :: l, s, h => crcL_lt l (crc1_lt h c)
theorem crcP_lt : ∀ (l : List ByteArray) {s : Nat}, s < 4294967296 → crcP s l < 4294967296
  | [], s, h => h
  | c :: l, s, h => crcP_lt l (crcL_lt _ h)
def crc (ss : List ByteArray) : Nat := 4294967295 ^^^ crcP 4294967295 ss
theorem crc_lt (ss : List ByteArray) : crc ss < 4294967296 := Nat.xor_lt_two_pow (n := 32) (by decide) (crcP_lt ss (by decide))

set_option maxHeartbeats 4000000 in
theorem checksum_any (w : World) (g : Nat) (ss : List ByteArray) (hn : ss.length ≤ 100) (hl : ∀ s ∈ ss, s.size ≤ 9223372036854775807) (hT : Tabs w) (hc : ∀ i s, ss[i]? = some s → w.cell? ⟨g, i, none⟩ = some (.string s)) :
    Calls Tryd.prog 73 #[.slice (some ⟨g, 0, none⟩) ss.length ss.length] w fun e w' => e = .returned (.int .u32 (crc ss : Int)) ∧ w = w' := by
  have HT := Lib.hid hT
  have Hc := Lib.hid hc
  have Hl := Lib.hid hl
  clear hT hc hl
  obtain ⟨n, hN⟩ : ∃ n, ss.length = n := ⟨_, rfl⟩
  rw [hN]
  rw [hN] at hn
  have HN := Lib.hid hN
  clear hN
  go_enter Tryd.func73, Tryd.ntmps73
  go_wp2
  go_loop [3, 9] (fun s i => ∃ (k acc : Nat), i = .int .i64 (k : Int) ∧ k ≤ n ∧ s = .int .u32 (acc : Int) ∧ acc < 4294967296 ∧ acc = crcP 4294967295 (ss.take k)) (fun _ i => n - (intOf i).toNat)
  case atStart => exact ⟨0, 4294967295, rfl, by omega, rfl, by omega, rfl⟩
  case round =>
    obtain ⟨k, acc, rfl, hk, rfl, ha, hacc⟩ := hrel
    by_cases hlt : k < n
    · obtain ⟨s, hs⟩ : ∃ s, ss[k]? = some s := ⟨ss[k]'(by rw [HN.out]; exact hlt), by simp⟩
      have hcell := Hc.out k s hs
      have hsz := Hl.out s (List.mem_of_getElem? hs)
      have hnext : crcL acc s.data.toList = crcP 4294967295 (ss.take (k + 1)) := by
        rw [List.take_add_one, hs, crcP, List.foldl_append, hacc]
        rfl
      have Hnext := Lib.hid hnext
      clear hnext hacc hs
      go_wp2
      go_loop [3, 15] (fun s2 i => ∃ (j acc2 : Nat), i = .int .i64 (j : Int) ∧ j ≤ s.size ∧ s2 = .int .u32 (acc2 : Int) ∧ acc2 < 4294967296 ∧ acc2 = crcL acc (s.data.toList.take j)) (fun _ i => s.size - (intOf i).toNat)
      case atStart => exact ⟨0, acc, rfl, by omega, rfl, ha, rfl⟩
      case round =>
        obtain ⟨j, acc2, rfl, hj, rfl, ha2, hacc2⟩ := hrel
        by_cases hlt2 : j < s.size
        · obtain ⟨x, hxe⟩ : ∃ x, acc2 ^^^ s[j].toNat = x := ⟨_, rfl⟩
          have hx : bits .xor .u32 (acc2 : Int) ((s[j].toNat : Int) % 4294967296) = (x : Int) := by
            have hb := s[j].toNat_lt
            rw [show ((s[j].toNat : Int) % 4294967296) = ((s[j].toNat : Nat) : Int) by omega, u32_xor_nat _ _ ha2 (by omega), hxe]
          have hxl : x < 4294967296 := by rw [← hxe]; exact xor_lt ha2 s[j].toNat_lt
          have hstep : nst (nst x) = crcL acc (s.data.toList.take (j + 1)) := by
            have hjl : j < s.data.toList.length := by simpa using hlt2
            rw [List.take_succ_eq_append_getElem hjl, crcL, List.foldl_append, ← hxe, hacc2]
            rfl
          have Hstep := Lib.hid hstep
          clear hstep hxe hacc2
          go_wp2
          clear hx
          go_loop [3, 24] (fun s3 i => ∃ (q y : Nat), i = .int .i64 (q : Int) ∧ q ≤ 2 ∧ s3 = .int .u32 (y : Int) ∧ y < 4294967296 ∧ ((q = 0 ∧ y = x) ∨ (q = 1 ∧ y = nst x) ∨ (q = 2 ∧ y = nst (nst x)))) (fun _ i => 2 - (intOf i).toNat)
          case atStart => exact ⟨0, x, rfl, by omega, rfl, hxl, .inl ⟨rfl, rfl⟩⟩
          case round =>
            obtain ⟨q, y, rfl, hq, rfl, hy, hqy⟩ := hrel
            have Hqy := Lib.hid hqy
            clear hqy
            by_cases hlt3 : q < 2
            · obtain ⟨z, hze⟩ : ∃ z, y % 16 = z := ⟨_, rfl⟩
              have hz : z < 16 := by omega
              have hand : bits .and .u32 (y : Int) 15 = (z : Int) := by
                rw [show (15 : Int) = ((15 : Nat) : Int) by rfl, u32_and_nat _ _ hy (by decide), ← hze]
                congr 1
                exact Nat.and_two_pow_sub_one_eq_mod _ 4
              have hcz := HT.out.t z hz
              have hz0 : (0 : Int) ≤ (z : Int) := by omega
              have hz1 : (z : Int) < 16 := by omega
              obtain ⟨y2, hy2e⟩ : ∃ y2, nst y = y2 := ⟨_, rfl⟩
              have hy2 : y2 < 4294967296 := by rw [← hy2e]; exact nst_lt hy
              have hxor : bits .xor .u32 ((y : Int) / 16) (nib z : Int) = (y2 : Int) := by
                rw [show ((y : Int) / 16) = ((y / 16 : Nat) : Int) by omega, u32_xor_nat _ _ (by omega) (nib_lt ⟨z, hz⟩), ← hy2e]
                subst hze
                rfl
              have Hy2 := Lib.hid hy2e
              clear hy2e hze
              go_wp2
              go_round
              case rel => exact ⟨q + 1, y2, by go_num, by omega, by first | rfl | rw [hxor], hy2, by
                rcases Hqy.out with ⟨h1, h2⟩ | ⟨h1, h2⟩ | ⟨h1, h2⟩
                · exact .inr (.inl ⟨by omega, by rw [← Hy2.out, h2]⟩)
                · exact .inr (.inr ⟨by omega, by rw [← Hy2.out, h2]⟩)
                · omega⟩
              case measure => simp [intOf]; omega
            · have hfin : y = crcL acc (s.data.toList.take (j + 1)) := by
                rw [← Hstep.out]
                rcases Hqy.out with ⟨h1, h2⟩ | ⟨h1, h2⟩ | ⟨h1, h2⟩
                · omega
                · omega
                · exact h2
              have Hfin := Lib.hid hfin
              clear hfin
              go_wp2
              go_round
              case rel => exact ⟨j + 1, y, by go_num, by omega, rfl, hy, Hfin.out⟩
              case measure => simp [intOf]; omega
        · have hjs : j = s.size := by omega
          have hfin : acc2 = crcP 4294967295 (ss.take (k + 1)) := by
            rw [← Hnext.out, hacc2, hjs, List.take_of_length_le (by simp)]
          have Hfin := Lib.hid hfin
          clear hfin hacc2 hjs
          go_wp2
          go_round
          case rel => exact ⟨k + 1, acc2, by go_num, by omega, rfl, ha2, Hfin.out⟩
          case measure => simp [intOf]; omega
    · have hkn : k = n := by omega
      have hfin : acc = crcP 4294967295 ss := by rw [hacc, hkn, ← HN.out, List.take_length]
      have Hfin := Lib.hid hfin
      clear hfin hacc hkn
      go_wp2
      go_ret
      all_goals (
        have hx : bits .xor .u32 IntKind.u32.max (acc : Int) = ((4294967295 ^^^ acc : Nat) : Int) := u32_xor_nat 4294967295 acc (by decide) ha
        refine ⟨?_, by first | rfl | assumption⟩
        unfold crc
        rw [← Hfin.out, ← hx]
        rfl)
end Go.Proofs.YtcefhcailhediaaDoor
