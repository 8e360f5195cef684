/- Proved: for any numbers, VarintRow of butterylaw2 answers true (numbers that are encoded one after the other are decoded one by one), and its argument reads as before. Conditions: none beyond what the given row states. -/
import Derived.Test.YtgibmlcgpifbpaaLaw2
namespace Go.Proofs.Ytgibmlcgpifbpaa.varintRow
set_option linter.unusedVariables false
set_option linter.unusedSimpArgs false
open Go.ChangeShapes Go.WideShapes Go.ChangeAt Go.RowKit Lift Vn Vt

theorem own : ownKnob Try.prog.godebug = none := by kernel_rfl

/-- The encodings of numbers, one behind the other. -/
def encs (xs : List Nat) : List Nat := xs.flatMap enc
theorem encs_snoc (xs : List Nat) (x : Nat) : encs (xs ++ [x]) = encs xs ++ enc x := by simp [encs]
theorem encs_len (xs : List Nat) : (encs xs).length ≤ 10 * xs.length := by
  induction xs with
  | nil => simp [encs]
  | cons x xs ih =>
    have := (enc_len x).2
    have e : encs (x :: xs) = enc x ++ encs xs := by simp [encs]
    rw [e, List.length_append, List.length_cons]
    omega
theorem encs_byte (xs : List Nat) (h : ∀ x, x ∈ xs → x < 18446744073709551616) : ∀ c, c ∈ encs xs → c < 256 := by
  intro c hc
  obtain ⟨x, hx, hcx⟩ := List.mem_flatMap.1 hc
  exact enc_byte x (h x hx) c hcx
theorem res_at (xs : List Nat) (k x : Nat) (h : xs[k]? = some x) (hx : x < 18446744073709551616) :
    res (encs xs) ((encs (xs.take k)).length : Int) = (x, (encs (xs.take k)).length + (enc x).length, 0) := by
  have e : encs xs = encs (xs.take k) ++ (enc x ++ encs (xs.drop (k + 1))) := by
    have : xs = xs.take k ++ (x :: xs.drop (k + 1)) := by
      conv => lhs; rw [← List.take_append_drop k xs]
      rw [List.drop_eq_getElem?_toList_append, h]; rfl
    conv => lhs; rw [this]
    simp [encs]
  have hd := decAt_enc (encs (xs.take k)) (encs (xs.drop (k + 1))) x hx
  rw [← e] at hd
  unfold res
  rw [if_neg (by have := congrArg List.length e; simp at this; omega), Int.toNat_natCast, hd]
  simp
theorem take_next (xs : List Nat) (k x : Nat) (h : xs[k]? = some x) : xs.take (k + 1) = xs.take k ++ [x] := by
  rw [List.take_add_one, h]; rfl
abbrev vu (x : Nat) : Value := .int .u64 (x : Int)

set_option maxRecDepth 100000 in
set_option maxHeartbeats 800000 in
theorem walk (A : Option Addr) (c : Nat) (xs : List Nat) (W : World) (hl : Lies W W.heap.size A (xs.map vu)) (hx : ∀ x, x ∈ xs → x < 18446744073709551616) (hm : xs.length ≤ 9223372036854775807) :
    Calls Try.prog 6 #[.slice A xs.length c] W (Yes W) := by
  have HL := Lib.hid hl
  have HX := Lib.hid hx
  clear hl hx
  by_cases h60 : 60 < xs.length
  · go_enter Try.func6, Try.ntmps6
    go_wp2_with fail
    refine (alive_any _).mono ?_; rintro e W1 ⟨rfl, hb1⟩
    have HB1 := Lib.hid hb1
    clear hb1
    go_wp2_with fail
    go_ret
    exact ⟨rfl, HB1.out⟩
  · go_enter Try.func6, Try.ntmps6
    go_wp2_with fail
    refine (alive_any _).mono ?_; rintro e W1 ⟨rfl, hb1⟩
    have HB1 := Lib.hid hb1
    clear hb1
    go_wp2_with fail
    go_loopw [4, 5] (fun b i wr => ∃ (k : Nat) (B : Option Addr) (d : Nat), k ≤ xs.length ∧ i = .int .i64 k ∧ b = .slice B (encs (xs.take k)).length d ∧ Hid ((encs (xs.take k)).length ≤ d) ∧
        Hid (Lies wr wr.heap.size B ((encs (xs.take k)).map vb)) ∧ Hid (Below W.heap.size W wr)) (fun _ i _ => 100 - (intOf i).toNat)
    case atStart => exact ⟨0, none, 0, by omega, rfl, rfl, Lib.hid (by simp [encs]), Lib.hid (.inl rfl), HB1⟩
    case round =>
      obtain ⟨k, B, d, hk, rfl, rfl, hd, hlb, hb⟩ := hrel
      by_cases hlt : k < xs.length
      · obtain ⟨x, hx⟩ : ∃ x, xs[k]? = some x := ⟨_, List.getElem?_eq_getElem hlt⟩
        obtain ⟨ad, rfl, _, hcell⟩ := (HL.out.below hb.out).place (by simp; omega)
        have hc1 : wr.cell? (ad.add k) = some (.int .u64 x) := hcell k _ (by rw [List.getElem?_map, hx]; rfl)
        have hx64 := HX.out x (List.mem_of_getElem? hx)
        have hp := put_calls B d x (encs (xs.take k)) wr hlb.out (by have := encs_len (xs.take k); have := List.length_take_le k xs; omega) hx64
        have HP := Lib.hid hp
        have HE := Lib.hid (take_next xs k x hx)
        clear hp hcell hx hx64
        go_wp2_with fail
        refine HP.out.mono ?_
        intro e W2 hm2
        obtain ⟨A2, c2, rfl, hc2, _, hl2, hb2⟩ := hm2.parts
        have HB2 := Lib.hid (hb.out.trans (hb2.mono hb.out.size))
        have L2 := Lib.hid hl2
        have C2 := Lib.hid hc2
        clear hm2 hl2 hb2 hc2
        go_wp2_with fail
        go_roundw
        case rel =>
          refine ⟨k + 1, A2, c2, by omega, by go_num, ?_, Lib.hid ?_, Lib.hid ?_, HB2⟩
          · rw [HE.out, encs_snoc, List.length_append]
          · rw [HE.out, encs_snoc]; exact C2.out
          · rw [HE.out, encs_snoc]; exact L2.out
        case measure => simp [intOf]; omega
      · have hkn : xs.take k = xs := List.take_of_length_le (by omega)
        rw [hkn] at hlb hd ⊢
        have hel := encs_len xs
        have ek : Hid (k = xs.length) := Lib.hid (by omega)
        clear hkn
        go_wp2_with fail
        go_loopw [6, 7] (fun at' i w2 => ∃ j : Nat, j ≤ xs.length ∧ i = .int .i64 j ∧ at' = .int .i64 (encs (xs.take j)).length ∧ wr = w2) (fun _ i _ => 100 - (intOf i).toNat)
        case atStart => exact ⟨0, by omega, rfl, rfl, rfl⟩
        case round =>
          obtain ⟨j, hj, rfl, rfl, rfl⟩ := hrel
          by_cases hlt2 : j < xs.length
          · obtain ⟨x, hx⟩ : ∃ x, xs[j]? = some x := ⟨_, List.getElem?_eq_getElem hlt2⟩
            obtain ⟨ad, rfl, _, hcell⟩ := (HL.out.below hb.out).place (by simp; omega)
            have hc1 : wr.cell? (ad.add j) = some (.int .u64 x) := hcell j _ (by rw [List.getElem?_map, hx]; rfl)
            have hx64 := HX.out x (List.mem_of_getElem? hx)
            have g := get_calls B d _ (encs xs) ((encs (xs.take j)).length : Int) wr hlb.out hd.out (by unfold maxLen; omega) (encs_byte xs HX.out)
            rw [res_at xs j x hx hx64] at g
            simp only [told] at g
            have G := Lib.hid g
            have HE := Lib.hid (take_next xs j x hx)
            have hpos := enc_len x
            have htl := encs_len (xs.take j)
            have htl2 := List.length_take_le j xs
            clear g hcell hx hx64
            go_wp2_with fail
            refine G.out.mono ?_; rintro e w' ⟨rfl, rfl⟩
            go_wp2_with (go_at_call 15; refine (num_any _ _).mono ?_; rintro e w' ⟨rfl, rfl⟩)
            go_roundw
            case rel => exact ⟨j + 1, by omega, by go_num, by rw [HE.out, encs_snoc, List.length_append]; go_num, trivial⟩
            case measure => simp [intOf]; omega
          · have hjn : xs.take j = xs := List.take_of_length_le (by omega)
            rw [hjn]
            clear hjn
            go_wp2_with fail
            go_ret
            exact ⟨rfl, hb.out⟩


set_option maxRecDepth 100000 in
theorem lifted (os : Os) (started : os.Started) (H : Type) (enc : TypeId × Value → H) :
    ReturnsInHanded {} Try.checked os 6 .any (Rows.varintRowSpec.pre6 enc Try.prog Try.f6 Rows.varintRowRow.domain false) (Rows.varintRowSpec.post enc Try.prog Try.f6 false true false false) := by
  refine lift_true (C := Try.checked) own started (by kernel_rfl) Try.func6
    (ChangeSpec.witness6 (enc := enc) (C := Try.checked) false ⟨#[], #[.slice none 0 0], []⟩ 8 (by kernel_rfl) (by kernel_rfl) (by kernel_rfl) (by kernel_rfl))
    (by kernel_rfl) (by kernel_rfl) (by kernel_rfl) Try.underlying4 rfl ?_ ?_
  · intro ds hds
    match ds, hds with
    | [d1], _ => exact ⟨rfl, rfl, rfl⟩
  · intro W base args ds p hval0 hA0 hlt _
    have hval : ∀ (j : Nat) t v, Try.f6.params[j]? = some t → args[j]? = some v → Value.okWide Try.prog W .any base t v := hval0
    have hA : DataW.TrodAll enc Try.prog W 0 (fun _ => true) true Try.f6.params.toList args.toList ds p := hA0
    rw [Try.params6] at hA hval
    obtain ⟨v0, vs0, d0, ds0, p0, q0, hargs, rfl, rfl, h0, r0⟩ := trodAll_cons hA
    obtain ⟨rfl, rfl, rfl⟩ := trodAll_nil r0
    obtain rfl : args = #[v0] := by cases args; simp_all
    obtain ⟨A0, c0, zs0, rfl, hc0, hm0, hl0, hw0⟩ := open_nums Try.underlying41 Try.underlying23 (by kernel_rfl) (hval 0 _ v0 rfl rfl) h0 (fun x hx => hlt x (by simp [hx]))
    obtain ⟨bs0, rfl, hz0⟩ := as_nat zs0 fun n hn => (u64_of (hw0 n hn)).1
    have hbs0 := fun b hb => (u64_of (hw0 _ (hz0 b hb))).2
    rw [List.length_map] at hc0 ⊢
    rw [List.map_map] at hl0
    have hml : maxLen = 9223372036854775807 := rfl
    exact walk A0 c0 bs0 W hl0 (fun x hx => by have := hbs0 x hx; omega) (by omega)

theorem over : Rows.varintRowRow.holds Try.pinned (OpenSpec.ofChange Rows.varintRowSpec) :=
  OpenClaim.holds_of_wide 6 Try.f6 rfl rfl rfl rfl rfl rfl rfl ⟨rfl, rfl, rfl, rfl, rfl⟩ rfl rfl rfl rfl rfl (by kernel_rfl) Try.func6 (by kernel_rfl)
    (of_decide_eq_true (by kernel_rfl)) (by unfold Func.isWrapper; first | (rw [if_pos (by decide +kernel)]; kernel_rfl) | (rw [if_neg (by decide +kernel)]; exact ⟨rfl, rfl⟩))
    (fun os started H enc _ => lifted os started H enc)

theorem proved : Rows.VarintRowSaid :=
  over
#print axioms proved
end Go.Proofs.Ytgibmlcgpifbpaa.varintRow
