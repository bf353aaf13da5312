/-
  THE SHELF's CONTRACTS OF strconv.toError AT THIS DUMP (laid by the kit's lay-shelf and lay-plain).
-/
import Derived.Test.YtkhmdofeonlnpaaGreatDoorGah
import Derived.Shelf.LaysC
import Derived.Shelf.Strconv.ToError
import Derived.Shelf.Strconv.ToErrorRange
import Derived.Test.YtkhmdofeonlnpaaGreatDoorProg
namespace Go.Proofs
open Go.Shelf
def Tryz.laysC245_ren : Go.Shelf.Ren := ⟨fun | 245 => 214 | 279 => 229 | 280 => 230 | 281 => 231 | 282 => 232 | 316 => 241 | 171 => 243 | 205 => 242 | 243 => 245 | 246 => 247 | 283 => 248 | 284 => 249 | 285 => 250 | 286 => 251 | 129 => 253 | 317 => 252 | 318 => 254 | 319 => 255 | 320 => 256 | 337 => 257 | 338 => 258 | n => n, fun | 9 => 9 | 3 => 3 | 75 => 241 | 167 => 277 | 4 => 4 | 168 => 278 | 210 => 288 | 37 => 151 | 0 => 0 | 127 => 262 | 145 => 293 | 143 => 291 | 2 => 2 | 171 => 295 | 53 => 25 | 5 => 5 | 173 => 297 | 212 => 300 | 51 => 224 | 20 => 20 | 213 => 301 | 46 => 261 | 232 => 304 | 233 => 305 | 80 => 203 | n => n, fun | 15 => 3 | 16 => 4 | 17 => 6 | 18 => 7 | 19 => 8 | n => n⟩
theorem Tryz.laysC245 : Go.Proofs.LaysC.n245 Tryz.prog Tryz.laysC245_ren := {
  mixed := by kernel_rfl
  f129 := Tryz.func253.trans (congrArg some (by kernel_rfl))
  f171 := Tryz.func243.trans (congrArg some (by kernel_rfl))
  f205 := Tryz.func242.trans (congrArg some (by kernel_rfl))
  f243 := Tryz.func245.trans (congrArg some (by kernel_rfl))
  f245 := Tryz.func214.trans (congrArg some (by kernel_rfl))
  f246 := Tryz.func247.trans (congrArg some (by kernel_rfl))
  f279 := Tryz.func229.trans (congrArg some (by kernel_rfl))
  f280 := Tryz.func230.trans (congrArg some (by kernel_rfl))
  f281 := Tryz.func231.trans (congrArg some (by kernel_rfl))
  f282 := Tryz.func232.trans (congrArg some (by kernel_rfl))
  f283 := Tryz.func248.trans (congrArg some (by kernel_rfl))
  f284 := Tryz.func249.trans (congrArg some (by kernel_rfl))
  f285 := Tryz.func250.trans (congrArg some (by kernel_rfl))
  f286 := Tryz.func251.trans (congrArg some (by kernel_rfl))
  f316 := Tryz.func241.trans (congrArg some (by kernel_rfl))
  f317 := Tryz.func252.trans (congrArg some (by kernel_rfl))
  f318 := Tryz.func254.trans (congrArg some (by kernel_rfl))
  f319 := Tryz.func255.trans (congrArg some (by kernel_rfl))
  f320 := Tryz.func256.trans (congrArg some (by kernel_rfl))
  f337 := Tryz.func257.trans (congrArg some (by kernel_rfl))
  f338 := Tryz.func258.trans (congrArg some (by kernel_rfl))
  t0 := Tryz.underlying0
  a0 := Tryz.isAgg0
  z0 := Tryz.sizeOf0
  v0 := Tryz.zeroValue0
  t2 := Tryz.underlying2
  a2 := Tryz.isAgg2
  z2 := Tryz.sizeOf2
  v2 := Tryz.zeroValue2
  t3 := Tryz.underlying3
  a3 := Tryz.isAgg3
  z3 := Tryz.sizeOf3
  v3 := Tryz.zeroValue3
  t4 := Tryz.underlying4
  a4 := Tryz.isAgg4
  z4 := Tryz.sizeOf4
  v4 := Tryz.zeroValue4
  t5 := Tryz.underlying5
  a5 := Tryz.isAgg5
  z5 := Tryz.sizeOf5
  v5 := Tryz.zeroValue5
  t9 := Tryz.underlying9
  a9 := Tryz.isAgg9
  z9 := Tryz.sizeOf9
  v9 := Tryz.zeroValue9
  t20 := Tryz.underlying20
  a20 := Tryz.isAgg20
  z20 := Tryz.sizeOf20
  v20 := Tryz.zeroValue20
  t37 := Tryz.underlying151
  a37 := Tryz.isAgg151
  z37 := Tryz.sizeOf151
  v37 := Tryz.zeroValue151
  t46 := Tryz.underlying261
  a46 := Tryz.isAgg261
  z46 := Tryz.sizeOf261
  v46 := Tryz.zeroValue261
  t51 := Tryz.underlying224
  a51 := Tryz.isAgg224
  z51 := Tryz.sizeOf224
  v51 := Tryz.zeroValue224
  t53 := Tryz.underlying25
  a53 := Tryz.isAgg25
  z53 := Tryz.sizeOf25
  v53 := Tryz.zeroValue25
  t75 := Tryz.underlying241
  a75 := Tryz.isAgg241
  z75 := Tryz.sizeOf241
  v75 := Tryz.zeroValue241
  t127 := Tryz.underlying262
  a127 := Tryz.isAgg262
  z127 := Tryz.sizeOf262
  v127 := Tryz.zeroValue262
  t143 := Tryz.underlying291
  a143 := Tryz.isAgg291
  z143 := Tryz.sizeOf291
  v143 := Tryz.zeroValue291
  t145 := Tryz.underlying293
  a145 := Tryz.isAgg293
  z145 := Tryz.sizeOf293
  v145 := Tryz.zeroValue293
  t167 := Tryz.underlying277
  a167 := Tryz.isAgg277
  z167 := Tryz.sizeOf277
  v167 := Tryz.zeroValue277
  t168 := Tryz.underlying278
  a168 := Tryz.isAgg278
  z168 := Tryz.sizeOf278
  v168 := Tryz.zeroValue278
  t171 := Tryz.underlying295
  a171 := Tryz.isAgg295
  z171 := Tryz.sizeOf295
  v171 := Tryz.zeroValue295
  t173 := Tryz.underlying297
  a173 := Tryz.isAgg297
  z173 := Tryz.sizeOf297
  v173 := Tryz.zeroValue297
  t210 := Tryz.underlying288
  a210 := Tryz.isAgg288
  z210 := Tryz.sizeOf288
  v210 := Tryz.zeroValue288
  t212 := Tryz.underlying300
  a212 := Tryz.isAgg300
  z212 := Tryz.sizeOf300
  v212 := Tryz.zeroValue300
  t213 := Tryz.underlying301
  a213 := Tryz.isAgg301
  z213 := Tryz.sizeOf301
  t232 := Tryz.underlying304
  a232 := Tryz.isAgg304
  z232 := Tryz.sizeOf304
  v232 := Tryz.zeroValue304
  t233 := Tryz.underlying305
  a233 := Tryz.isAgg305
  z233 := Tryz.sizeOf305
  v233 := Tryz.zeroValue305
  g15 := by kernel_rfl
  g16 := by kernel_rfl
  g17 := by kernel_rfl
  g18 := by kernel_rfl
  g19 := by kernel_rfl
  t80 := Tryz.underlying203
  a80 := Tryz.isAgg203
  z80 := Tryz.sizeOf203
  v80 := Tryz.zeroValue203
  i0 := by kernel_rfl
  i2 := by kernel_rfl
  i3 := by kernel_rfl
  i4 := by kernel_rfl
  i5 := by kernel_rfl
  i9 := by kernel_rfl
  i20 := by kernel_rfl
  i37 := by kernel_rfl
  i46 := by kernel_rfl
  i51 := by kernel_rfl
  i53 := by kernel_rfl
  i75 := by kernel_rfl
  i80 := by kernel_rfl
  i127 := by kernel_rfl
  i143 := by kernel_rfl
  i145 := by kernel_rfl
  i167 := by kernel_rfl
  i168 := by kernel_rfl
  i171 := by kernel_rfl
  i173 := by kernel_rfl
  i210 := by kernel_rfl
  i212 := by kernel_rfl
  i232 := by kernel_rfl
  i233 := by kernel_rfl
  m15 := by kernel_rfl
  m16 := by kernel_rfl
  m17 := by kernel_rfl
  m18 := by kernel_rfl
  m19 := by kernel_rfl
  c0 := by kernel_rfl
  c2 := by kernel_rfl
  c3 := by kernel_rfl
  c4 := by kernel_rfl
  c5 := by kernel_rfl
  c9 := by kernel_rfl
  c20 := by kernel_rfl
  c37 := by kernel_rfl
  c46 := by kernel_rfl
  c51 := by kernel_rfl
  c53 := by kernel_rfl
  c75 := by kernel_rfl
  c80 := by kernel_rfl
  c127 := by kernel_rfl
  c143 := by kernel_rfl
  c145 := by kernel_rfl
  c167 := by kernel_rfl
  c168 := by kernel_rfl
  c171 := by kernel_rfl
  c173 := by kernel_rfl
  c210 := by kernel_rfl
  c212 := by kernel_rfl
  c213 := by kernel_rfl
  c232 := by kernel_rfl
  c233 := by kernel_rfl }
open Go.RowKit in
/-- strconv.toError, at the inner package's ErrSyntax: 'syntaxError(fn, s)' as an error: A *NumError IN A NEW BLOCK. (LAID: no walk: one application.) -/
theorem Tryz.strconv_toError_syntax (fn s : ByteArray) (base bits : Int) (ev : Value) (w : World) (hlim : s.size ≤ 281474976710656) (hv : w.cell? ⟨3, 0, none⟩ = some ev) (hev : ev = .nilIface ∨ ∃ te pe, ev = .iface te pe) :
    Calls Tryz.prog 214 #[.string fn, .string s, .int .i64 base, .int .i64 bits, .iface 277 (.int .i64 2)] w fun e w' => ∃ N, e = .returned (.iface 278 (.pointer (some ⟨N, 0, none⟩))) ∧ w.heap.size ≤ N ∧ w'.heap[N]? = some (.cells #[.string fn, .string s, ev] 288 (0, 0)) ∧ Below w.heap.size w w' := Any.strconv_toError_syntax Tryz.laysC245 fn s base bits ev w hlim hv hev
open Go.RowKit in
/-- strconv.toError, at the inner package's ErrRange: 'rangeError(fn, s)' as an error: A *NumError IN A NEW BLOCK. (LAID: no walk: one application.) -/
theorem Tryz.strconv_toError_range (fn s : ByteArray) (base bits : Int) (ev : Value) (w : World) (hlim : s.size ≤ 281474976710656) (hv : w.cell? ⟨4, 0, none⟩ = some ev) (hev : ev = .nilIface ∨ ∃ te pe, ev = .iface te pe) :
    Calls Tryz.prog 214 #[.string fn, .string s, .int .i64 base, .int .i64 bits, .iface 277 (.int .i64 1)] w fun e w' => ∃ N, e = .returned (.iface 278 (.pointer (some ⟨N, 0, none⟩))) ∧ w.heap.size ≤ N ∧ w'.heap[N]? = some (.cells #[.string fn, .string s, ev] 288 (0, 0)) ∧ Below w.heap.size w w' := Any.strconv_toError_range Tryz.laysC245 fn s base bits ev w hlim hv hev
end Go.Proofs

/- SEGMENT: THE WALKS OVER strconv.ParseUint at base 16, number. -/
namespace Go.Proofs.YtkhmdofeonlnpaaGreatDoor
open Go.RowKit
set_option maxRecDepth 100000
set_option linter.unusedVariables false
set_option linter.unusedSimpArgs false

/-- the table of the checksums -/
def nibs : Array Nat := #[0x00000000, 0x1db71064, 0x3b6e20c8, 0x26d930ac, 0x76dc4190, 0x6b6b51f4, 0x4db26158, 0x5005713c, 0xedb88320, 0xf00f9344, 0xd6d6a3e8, 0xcb61b38c, 0x9b64c2b0, 0x86d3d2d4, 0xa00ae278, 0xbdbdf21c]
def nib (i : Nat) : Nat := nibs.getD i 0
theorem nib_lt : ∀ i : Fin 16, nib i.1 < 4294967296 := by decide
/-- the package-level variables that the program reads -/
structure Tabs (w : World) : Prop where
  t : ∀ i, i < 16 → w.cell? ⟨5, i, none⟩ = some (.int .u32 (nib i : Int))
  e2 : ∃ te pe, w.cell? ⟨3, 0, none⟩ = some (.iface te pe)
  e3 : ∃ te pe, w.cell? ⟨4, 0, none⟩ = some (.iface te pe)
  sz : 5 < w.heap.size
theorem Tabs.under {w w' : World} (h : Tabs w) (hb : Below w.heap.size w w') : Tabs w' where
  t := fun i hi => (hb.cell (p := ⟨5, i, none⟩) (by have := h.sz; show 5 < _; omega)).trans (h.t i hi)
  e2 := by obtain ⟨te, pe, e⟩ := h.e2; exact ⟨te, pe, (hb.cell (p := ⟨3, 0, none⟩) (by have := h.sz; show 3 < _; omega)).trans e⟩
  e3 := by obtain ⟨te, pe, e⟩ := h.e3; exact ⟨te, pe, (hb.cell (p := ⟨4, 0, none⟩) (by have := h.sz; show 4 < _; omega)).trans e⟩
  sz := Nat.lt_of_lt_of_le h.sz hb.size

/-- what the public ParseUint answers -/
def Pq (l : List UInt8) (v : Int) (err : Value) : Prop := 0 ≤ v ∧ v ≤ 18446744073709551615 ∧ (err = .nilIface ∨ ∃ N, err = .iface 278 (.pointer (some ⟨N, 0, none⟩))) ∧
  ∀ m, m < 18446744073709551616 → l = nameL m → err = .nilIface ∧ v = (m : Int)

set_option maxHeartbeats 1000000 in
theorem parse_any (w : World) (l : List UInt8) (hl : l.length ≤ 1000000) (hT : Tabs w) :
    Calls Tryz.prog 179 #[.string ⟨l.toArray⟩, .int .i64 16, .int .i64 64] w fun e w' => (∃ v err, e = .returned (.tuple #[.int .u64 v, err]) ∧ Pq l v err) ∧ Below w.heap.size w w' := by
  have HT := Lib.hid hT
  have hsz : (⟨l.toArray⟩ : ByteArray).size ≤ 281474976710656 := by simp [ByteArray.size]; omega
  have Hsz := Lib.hid hsz
  clear hT hsz
  go_enter Tryz.func179, Tryz.ntmps179
  go_wp2_with fail
  refine (iparse_any w l (by omega)).mono ?_
  rintro e w1 ⟨⟨v, err, rfl, hv0, hv1, herr, hnm⟩, hb⟩
  have Hb := Lib.hid hb
  have Hnm := Lib.hid hnm
  have HT1 := Lib.hid (HT.out.under hb)
  clear hb hnm
  rcases herr with rfl | rfl | rfl
  · go_wp2
    go_ret2
    exact ⟨⟨_, _, rfl, hv0, hv1, .inl rfl, fun m h1 h2 => ⟨rfl, (Hnm.out m h1 h2).2⟩⟩, Hb.out⟩
  · obtain ⟨te, pe, he⟩ := HT1.out.e3
    have Hte := Lib.hid (Tryz.strconv_toError_range ⟨#[80, 97, 114, 115, 101, 85, 105, 110, 116]⟩ ⟨l.toArray⟩ 16 64 _ w1 Hsz.out he (.inr ⟨te, pe, rfl⟩))
    clear he
    go_wp2_with fail
    refine (Hte.out).mono ?_
    rintro e w2 ⟨N, rfl, _, _, hb2⟩
    have Hb2 := Lib.hid (Hb.out.trans (hb2.mono Hb.out.size))
    clear hb2
    go_wp2
    go_ret2
    exact ⟨⟨_, _, rfl, hv0, hv1, .inr ⟨N, rfl⟩, fun m h1 h2 => absurd (Hnm.out m h1 h2).1 (by simp)⟩, Hb2.out⟩
  · obtain ⟨te, pe, he⟩ := HT1.out.e2
    have Hte := Lib.hid (Tryz.strconv_toError_syntax ⟨#[80, 97, 114, 115, 101, 85, 105, 110, 116]⟩ ⟨l.toArray⟩ 16 64 _ w1 Hsz.out he (.inr ⟨te, pe, rfl⟩))
    clear he
    go_wp2_with fail
    refine (Hte.out).mono ?_
    rintro e w2 ⟨N, rfl, _, _, hb2⟩
    have Hb2 := Lib.hid (Hb.out.trans (hb2.mono Hb.out.size))
    clear hb2
    go_wp2
    go_ret2
    exact ⟨⟨_, _, rfl, hv0, hv1, .inr ⟨N, rfl⟩, fun m h1 h2 => absurd (Hnm.out m h1 h2).1 (by simp)⟩, Hb2.out⟩

theorem hexd_inj : ∀ x y : Fin 16, hexd x.1 = hexd y.1 → x = y := by decide
theorem nameL_inj {m n : Nat} (hm : m < 18446744073709551616) (hn : n < 18446744073709551616) (h : nameL m = nameL n) : m = n := by
  have hd : ∀ k, k < 16 → m / 16 ^ (15 - k) % 16 = n / 16 ^ (15 - k) % 16 := fun k hk => by
    have hl : ∀ x, (nameL x).length = 16 := fun x => hexL_len x 16
    have h1 := hexL_at m 16 k (by rw [hexL_len]; exact hk)
    have h2 := hexL_at n 16 k (by rw [hexL_len]; exact hk)
    have h3 : (nameL m)[k]'(by rw [hl]; exact hk) = (nameL n)[k]'(by rw [hl]; exact hk) := by simp only [h]
    have h4 : hexd (m / 16 ^ (15 - k) % 16) = hexd (n / 16 ^ (15 - k) % 16) := by
      have e1 : (nameL m)[k]'(by rw [hl]; exact hk) = hexd (m / 16 ^ (16 - 1 - k) % 16) := h1
      have e2 : (nameL n)[k]'(by rw [hl]; exact hk) = hexd (n / 16 ^ (16 - 1 - k) % 16) := h2
      rw [e1, e2] at h3
      exact h3
    have := hexd_inj ⟨_, Nat.mod_lt (m / 16 ^ (15 - k)) (by decide)⟩ ⟨_, Nat.mod_lt (n / 16 ^ (15 - k)) (by decide)⟩ h4
    simpa using this
  have step : ∀ k, k ≤ 16 → m / 16 ^ (16 - k) = n / 16 ^ (16 - k) := by
    intro k
    induction k with
    | zero => intro _; rw [Nat.div_eq_of_lt (by simpa using hm), Nat.div_eq_of_lt (by simpa using hn)]
    | succ k ih =>
      intro hk
      have h1 := ih (by omega)
      have h2 := hd k (by omega)
      rw [show 16 - k = (15 - k) + 1 by omega, Nat.pow_succ, ← Nat.div_div_eq_div_mul, ← Nat.div_div_eq_div_mul] at h1
      rw [show 16 - (k + 1) = 15 - k by omega]
      omega
  simpa using step 16 (by omega)
open Classical in
/-- the number of a file's name -/
noncomputable def numB (s : ByteArray) : Option Nat := if h : ∃ m, m ≤ 4611686018427387904 ∧ s = nameB m then some h.choose else none
theorem numB_name {m : Nat} (h : m ≤ 4611686018427387904) : numB (nameB m) = some m := by
  have hex : ∃ k, k ≤ 4611686018427387904 ∧ nameB m = nameB k := ⟨m, h, rfl⟩
  unfold numB
  rw [dif_pos hex]
  have := hex.choose_spec
  congr 1
  refine nameL_inj (by omega) (by omega) ?_
  exact congrArg (fun b : ByteArray => b.data.toList) this.2.symm
theorem numB_some {s : ByteArray} {m : Nat} (h : numB s = some m) : m ≤ 4611686018427387904 ∧ s = nameB m := by
  unfold numB at h
  split at h
  · rename_i hex
    injection h with h
    subst h
    exact hex.choose_spec
  · cases h
theorem numB_none {s : ByteArray} (h : numB s = none) (m : Nat) (hm : m ≤ 4611686018427387904) : s ≠ nameB m := fun e => by rw [e, numB_name hm] at h; cases h
/-- what number answers -/
noncomputable def numV (s : ByteArray) : Value := match numB s with
  | some n => .tuple #[.int .u64 (n : Int), .bool true]
  | none => .tuple #[.int .u64 0, .bool false]

set_option maxHeartbeats 1000000 in
theorem number_any (w : World) (s : ByteArray) (hl : s.size ≤ 1000000) (hT : Tabs w) :
    Calls Tryz.prog 144 #[.string s] w fun e w' => e = .returned (numV s) ∧ Below w.heap.size w w' := by
  obtain ⟨l, hs⟩ : ∃ l : List UInt8, s = ⟨l.toArray⟩ := ⟨s.data.toList, by simp⟩
  have hll : l.length ≤ 1000000 := by rw [hs] at hl; simpa [ByteArray.size] using hl
  have HT := Lib.hid hT
  clear hT
  go_enter Tryz.func144, Tryz.ntmps144
  rw [hs]
  go_wp2_with fail
  refine (parse_any w l hll HT.out).mono ?_
  rintro e w1 ⟨⟨v, err, rfl, hv0, hv1, herr, hnm⟩, hb⟩
  have Hb := Lib.hid hb
  clear hb
  rcases herr with rfl | ⟨N, rfl⟩
  · by_cases hbig : v ≤ 4611686018427387904
    · have hbig2 : ¬ (4611686018427387904 : Int) < v := by omega
      have Hnm := Lib.hid hnm
      have Hs := Lib.hid hs
      clear hnm hs
      go_wp2_with fail
      refine (name_any w1 v hv0 hv1).mono ?_
      rintro e w2 ⟨rfl, hb2⟩
      have Hb2 := Lib.hid (Hb.out.trans (hb2.mono Hb.out.size))
      clear hb2
      by_cases he : nameB v.toNat = ⟨l.toArray⟩
      · have hn : numV s = .tuple #[.int .u64 v, .bool true] := by
          unfold numV
          rw [Hs.out, ← he, numB_name (by omega)]
          simp only
          rw [Int.toNat_of_nonneg hv0]
        have e1 := str_is he
        rw [show (⟨l.toArray⟩ : ByteArray).toList = l by simp] at e1
        have Hn := Lib.hid hn
        clear hn he
        go_wp2
        go_ret2
        exact ⟨by rw [← Hs.out, Hn.out]; rfl, Hb2.out⟩
      · have hn : numV s = .tuple #[.int .u64 0, .bool false] := by
          have : numB s = none := by
            cases h : numB s with
            | none => rfl
            | some m =>
              obtain ⟨h1, h2⟩ := numB_some h
              rw [Hs.out] at h2
              have h3 : l = nameL m := by unfold nameB at h2; simpa using h2
              have h4 := (Hnm.out m (by omega) h3).2
              exact absurd (by rw [h4, Int.toNat_natCast, ← h2]) he
          unfold numV
          rw [this]
        have e1 := str_not he
        rw [show (⟨l.toArray⟩ : ByteArray).toList = l by simp] at e1
        have Hn := Lib.hid hn
        clear hn he
        go_wp2
        go_ret2
        exact ⟨by rw [← Hs.out, Hn.out]; rfl, Hb2.out⟩
    · have hbig2 : (4611686018427387904 : Int) < v := by omega
      have hn : numV s = .tuple #[.int .u64 0, .bool false] := by
        have : numB s = none := by
          cases h : numB s with
          | none => rfl
          | some m =>
            obtain ⟨h1, h2⟩ := numB_some h
            rw [hs] at h2
            have h3 : l = nameL m := by unfold nameB at h2; simpa using h2
            have h4 := (hnm m (by omega) h3).2
            omega
        unfold numV
        rw [this]
      have Hn := Lib.hid hn
      have Hs := Lib.hid hs
      clear hn hnm hs
      go_wp2
      go_ret2
      exact ⟨by rw [← Hs.out, Hn.out]; rfl, Hb.out⟩
  · have hn : numV s = .tuple #[.int .u64 0, .bool false] := by
      have : numB s = none := by
        cases h : numB s with
        | none => rfl
        | some m =>
          obtain ⟨h1, h2⟩ := numB_some h
          rw [hs] at h2
          have h3 : l = nameL m := by unfold nameB at h2; simpa using h2
          have h4 := (hnm m (by omega) h3).1
          cases h4
      unfold numV
      rw [this]
    have Hn := Lib.hid hn
    have Hs := Lib.hid hs
    clear hn hnm hs
    go_wp2
    go_ret2
    exact ⟨by rw [← Hs.out, Hn.out]; rfl, Hb.out⟩
end Go.Proofs.YtkhmdofeonlnpaaGreatDoor

/- SEGMENT: THE WALK OVER checksum. -/
namespace Go.Proofs.YtkhmdofeonlnpaaGreatDoor
open Go.RowKit
set_option maxRecDepth 100000
set_option linter.unusedVariables false
set_option linter.unusedSimpArgs false

def nst (s : Nat) : Nat := (s / 16) ^^^ nib (s % 16)
def crc1 (s : Nat) (c : UInt8) : Nat := nst (nst (s ^^^ c.toNat))
def crcL (s : Nat) (l : List UInt8) : Nat := l.foldl crc1 s
def crcP (s : Nat) (ss : List ByteArray) : Nat := ss.foldl (fun s b => crcL s b.data.toList) s
theorem nst_lt {s : Nat} (h : s < 4294967296) : nst s < 4294967296 :=
  Nat.xor_lt_two_pow (n := 32) (by omega) (nib_lt ⟨s % 16, Nat.mod_lt _ (by decide)⟩)
theorem xor_lt {s c : Nat} (h : s < 4294967296) (hc : c < 256) : s ^^^ c < 4294967296 := Nat.xor_lt_two_pow (n := 32) h (by omega)
theorem crc1_lt {s : Nat} (h : s < 4294967296) (c : UInt8) : crc1 s c < 4294967296 := nst_lt (nst_lt (xor_lt h c.toNat_lt))
theorem crcL_lt : ∀ (l : List UInt8) {s : Nat}, s < 4294967296 → crcL s l < 4294967296
  | [], s, h => h
  | c :: l, s, h => crcL_lt l (crc1_lt h c)
theorem crcP_lt : ∀ (l : List ByteArray) {s : Nat}, s < 4294967296 → crcP s l < 4294967296
  | [], s, h => h
  | c :: l, s, h => crcP_lt l (crcL_lt _ h)
def crc (ss : List ByteArray) : Nat := 4294967295 ^^^ crcP 4294967295 ss
theorem crc_lt (ss : List ByteArray) : crc ss < 4294967296 := Nat.xor_lt_two_pow (n := 32) (by decide) (crcP_lt ss (by decide))

set_option maxHeartbeats 4000000 in
theorem checksum_any (w : World) (g : Nat) (ss : List ByteArray) (hn : ss.length ≤ 100) (hl : ∀ s ∈ ss, s.size ≤ 9223372036854775807) (hT : Tabs w) (hc : ∀ i s, ss[i]? = some s → w.cell? ⟨g, i, none⟩ = some (.string s)) :
    Calls Tryz.prog 234 #[.slice (some ⟨g, 0, none⟩) ss.length ss.length] w fun e w' => e = .returned (.int .u32 (crc ss : Int)) ∧ w = w' := by
  have HT := Lib.hid hT
  have Hc := Lib.hid hc
  have Hl := Lib.hid hl
  clear hT hc hl
  obtain ⟨n, hN⟩ : ∃ n, ss.length = n := ⟨_, rfl⟩
  rw [hN]
  rw [hN] at hn
  have HN := Lib.hid hN
  clear hN
  go_enter Tryz.func234, Tryz.ntmps234
  go_wp2
  go_loop [3, 9] (fun s i => ∃ (k acc : Nat), i = .int .i64 (k : Int) ∧ k ≤ n ∧ s = .int .u32 (acc : Int) ∧ acc < 4294967296 ∧ acc = crcP 4294967295 (ss.take k)) (fun _ i => n - (intOf i).toNat)
  case atStart => exact ⟨0, 4294967295, rfl, by omega, rfl, by omega, rfl⟩
  case round =>
    obtain ⟨k, acc, rfl, hk, rfl, ha, hacc⟩ := hrel
    by_cases hlt : k < n
    · obtain ⟨s, hs⟩ : ∃ s, ss[k]? = some s := ⟨ss[k]'(by rw [HN.out]; exact hlt), by simp⟩
      have hcell := Hc.out k s hs
      have hsz := Hl.out s (List.mem_of_getElem? hs)
      have hnext : crcL acc s.data.toList = crcP 4294967295 (ss.take (k + 1)) := by
        rw [List.take_add_one, hs, crcP, List.foldl_append, hacc]
        rfl
      have Hnext := Lib.hid hnext
      clear hnext hacc hs
      go_wp2
      go_loop [3, 15] (fun s2 i => ∃ (j acc2 : Nat), i = .int .i64 (j : Int) ∧ j ≤ s.size ∧ s2 = .int .u32 (acc2 : Int) ∧ acc2 < 4294967296 ∧ acc2 = crcL acc (s.data.toList.take j)) (fun _ i => s.size - (intOf i).toNat)
      case atStart => exact ⟨0, acc, rfl, by omega, rfl, ha, rfl⟩
      case round =>
        obtain ⟨j, acc2, rfl, hj, rfl, ha2, hacc2⟩ := hrel
        by_cases hlt2 : j < s.size
        · obtain ⟨x, hxe⟩ : ∃ x, acc2 ^^^ s[j].toNat = x := ⟨_, rfl⟩
          have hx : bits .xor .u32 (acc2 : Int) ((s[j].toNat : Int) % 4294967296) = (x : Int) := by
            have hb := s[j].toNat_lt
            rw [show ((s[j].toNat : Int) % 4294967296) = ((s[j].toNat : Nat) : Int) by omega, u32_xor_nat _ _ ha2 (by omega), hxe]
          have hxl : x < 4294967296 := by rw [← hxe]; exact xor_lt ha2 s[j].toNat_lt
          have hstep : nst (nst x) = crcL acc (s.data.toList.take (j + 1)) := by
            have hjl : j < s.data.toList.length := by simpa using hlt2
            rw [List.take_succ_eq_append_getElem hjl, crcL, List.foldl_append, ← hxe, hacc2]
            rfl
          have Hstep := Lib.hid hstep
          clear hstep hxe hacc2
          go_wp2
          clear hx
          go_loop [3, 24] (fun s3 i => ∃ (q y : Nat), i = .int .i64 (q : Int) ∧ q ≤ 2 ∧ s3 = .int .u32 (y : Int) ∧ y < 4294967296 ∧ ((q = 0 ∧ y = x) ∨ (q = 1 ∧ y = nst x) ∨ (q = 2 ∧ y = nst (nst x)))) (fun _ i => 2 - (intOf i).toNat)
          case atStart => exact ⟨0, x, rfl, by omega, rfl, hxl, .inl ⟨rfl, rfl⟩⟩
          case round =>
            obtain ⟨q, y, rfl, hq, rfl, hy, hqy⟩ := hrel
            have Hqy := Lib.hid hqy
            clear hqy
            by_cases hlt3 : q < 2
            · obtain ⟨z, hze⟩ : ∃ z, y % 16 = z := ⟨_, rfl⟩
              have hz : z < 16 := by omega
              have hand : bits .and .u32 (y : Int) 15 = (z : Int) := by
                rw [show (15 : Int) = ((15 : Nat) : Int) by rfl, u32_and_nat _ _ hy (by decide), ← hze]
                congr 1
                exact Nat.and_two_pow_sub_one_eq_mod _ 4
              have hcz := HT.out.t z hz
              have hz0 : (0 : Int) ≤ (z : Int) := by omega
              have hz1 : (z : Int) < 16 := by omega
              obtain ⟨y2, hy2e⟩ : ∃ y2, nst y = y2 := ⟨_, rfl⟩
              have hy2 : y2 < 4294967296 := by rw [← hy2e]; exact nst_lt hy
              have hxor : bits .xor .u32 ((y : Int) / 16) (nib z : Int) = (y2 : Int) := by
                rw [show ((y : Int) / 16) = ((y / 16 : Nat) : Int) by omega, u32_xor_nat _ _ (by omega) (nib_lt ⟨z, hz⟩), ← hy2e]
                subst hze
                rfl
              have Hy2 := Lib.hid hy2e
              clear hy2e hze
              go_wp2
              go_round
              case rel => exact ⟨q + 1, y2, by go_num, by omega, by first | rfl | rw [hxor], hy2, by
                rcases Hqy.out with ⟨h1, h2⟩ | ⟨h1, h2⟩ | ⟨h1, h2⟩
                · exact .inr (.inl ⟨by omega, by rw [← Hy2.out, h2]⟩)
                · exact .inr (.inr ⟨by omega, by rw [← Hy2.out, h2]⟩)
                · omega⟩
              case measure => simp [intOf]; omega
            · have hfin : y = crcL acc (s.data.toList.take (j + 1)) := by
                rw [← Hstep.out]
                rcases Hqy.out with ⟨h1, h2⟩ | ⟨h1, h2⟩ | ⟨h1, h2⟩
                · omega
                · omega
                · exact h2
              have Hfin := Lib.hid hfin
              clear hfin
              go_wp2
              go_round
              case rel => exact ⟨j + 1, y, by go_num, by omega, rfl, hy, Hfin.out⟩
              case measure => simp [intOf]; omega
        · have hjs : j = s.size := by omega
          have hfin : acc2 = crcP 4294967295 (ss.take (k + 1)) := by
            rw [← Hnext.out, hacc2, hjs, List.take_of_length_le (by simp)]
          have Hfin := Lib.hid hfin
          clear hfin hacc2 hjs
          go_wp2
          go_round
          case rel => exact ⟨k + 1, acc2, by go_num, by omega, rfl, ha2, Hfin.out⟩
          case measure => simp [intOf]; omega
    · have hkn : k = n := by omega
      have hfin : acc = crcP 4294967295 ss := by rw [hacc, hkn, ← HN.out, List.take_length]
      have Hfin := Lib.hid hfin
      clear hfin hacc hkn
      go_wp2
      go_ret
      all_goals (
        have hx : bits .xor .u32 IntKind.u32.max (acc : Int) = ((4294967295 ^^^ acc : Nat) : Int) := u32_xor_nat 4294967295 acc (by decide) ha
        refine ⟨?_, by first | rfl | assumption⟩
        unfold crc
        rw [← Hfin.out, ← hx]
        rfl)
end Go.Proofs.YtkhmdofeonlnpaaGreatDoor
