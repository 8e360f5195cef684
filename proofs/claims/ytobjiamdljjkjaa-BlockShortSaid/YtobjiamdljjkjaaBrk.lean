/- What the document's own ReadKey answers: the key lies in new memory. -/
import Derived.Test.YtobjiamdljjkjaaKread
import Derived.Test.YtobjiamdljjkjaaSfn
namespace Go.Proofs.Ytobjiamdljjkjaa.Ik
set_option linter.unusedVariables false
set_option linter.unusedSimpArgs false
open Go.RowKit Lift
def ToldF (W : World) (bs : List Nat) (e : Ending) (w' : World) : Prop :=
  ∃ (A : Option Addr) (c : Nat), e = .returned (.tuple #[key A c (resK bs), .int .i64 (resE bs : Nat)]) ∧ At w' w'.heap.size A c (resK bs) ∧ Below W.heap.size W w' ∧ LiesP w' (Sk.Fresh W.heap.size w') A ((resK bs).key.map vb)
theorem told_shortF {W w' : World} {bs : List Nat} (h : bs.length < 9) (hb : Below W.heap.size W w') :
    ToldF W bs (.returned (.tuple #[.agg #[.slice none 0 0, .int .u64 0, .int .i64 0], .int .i64 4])) w' := by
  refine ⟨none, 0, ?_, ?_, hb, ?_⟩
  · simp [resK, resE, h]
  · simp only [resK, if_pos h]; exact none_at w'
  · simp only [resK, if_pos h]; exact .inl rfl
theorem told_badF {W w' : World} {bs : List Nat} (h : ¬ bs.length < 9) (ho : okR bs = false) (hb : Below W.heap.size W w') :
    ToldF W bs (.returned (.tuple #[.agg #[.slice none 0 0, .int .u64 0, .int .i64 0], .int .i64 2])) w' := by
  refine ⟨none, 0, ?_, ?_, hb, ?_⟩
  · simp [resK, resE, h, ho]
  · simp only [resK, if_neg h, ho]; exact none_at w'
  · simp only [resK, if_neg h, ho]; exact .inl rfl
theorem told_okF {W w' : World} {bs : List Nat} {n y c : Nat} {A : Option Addr} (hk : (bs.take n).length = n) (hn : bs.length = n + 8) (h : 9 ≤ bs.length) (ho : okR bs = true) (hb : Below W.heap.size W w') (hc : n ≤ c) (hm : c ≤ maxLen) (h8 : ∀ x, x ∈ bs → x < 256)
    (hy : y = num (bs.drop n)) (hl : Lies w' w'.heap.size A ((bs.take n).map vb)) (hf : LiesP w' (Sk.Fresh W.heap.size w') A ((bs.take n).map vb)) :
    ToldF W bs (.returned (.tuple #[.agg #[.slice A n c, .int .u64 ((y : Int) / 256), .int .i64 ((y : Int) % 256)], .int .i64 0])) w' := by
  have hr : resK bs = ⟨bs.take n, y / 256, ((y % 256 : Nat) : Int)⟩ := by
    unfold resK
    rw [if_neg (by omega), if_pos ho, rawK, show bs.length - 8 = n by omega, hy]
  have he : resE bs = 0 := by unfold resE; rw [if_neg (by omega), if_pos ho]
  have hy2 := num_lt (bs.drop n) fun c hc => h8 c (List.mem_of_mem_drop hc)
  rw [List.length_drop, show bs.length - n = 8 by omega] at hy2
  refine ⟨A, c, ?_, ?_, hb, by rw [hr]; exact hf⟩
  · rw [hr, he]
    show _ = Ending.returned (.tuple #[.agg #[.slice A (bs.take n).length c, _, _], _])
    rw [hk]
    rfl
  · rw [hr]
    refine ⟨hl, by rw [hk]; exact hc, hm, fun x hx => h8 x (List.mem_of_mem_take hx), by simp only; omega, ?_, ?_⟩ <;> simp only <;> omega

theorem rread_shortF (A : Option Addr) (c : Nat) (bs : List Nat) (w : World) (h : bs.length < 9) :
    Calls Try.prog 75 #[.slice A bs.length c] w (ToldF w bs) := by
  go_enter Try.func75, Try.ntmps75
  go_wp2_with fail
  go_returns
  exact told_shortF h (Joins.below_alloc1 _ _)
set_option maxRecDepth 100000 in
set_option maxHeartbeats 400000 in
theorem rread_anyF (A : Option Addr) (c : Nat) (bs : List Nat) (w : World) (hl : Lies w w.heap.size A (bs.map vb)) (hc : bs.length ≤ c) (hm : c ≤ maxLen) (hb : ∀ x, x ∈ bs → x < 256) (h : 9 ≤ bs.length) (hsmall : bs.length ≤ 140737488354000) :
    Calls Try.prog 75 #[.slice A bs.length c] w (ToldF w bs) := by
  have hm0 := hm
  unfold maxLen at hm
  have HL := Lib.hid hl
  have H8 := Lib.hid hb
  clear hl hb
  obtain ⟨n, hn⟩ : ∃ n, bs.length = n + 8 := ⟨bs.length - 8, by omega⟩
  have en : ((bs.length : Int) - 8) = (n : Int) := by omega
  go_enter Try.func75, Try.ntmps75
  go_wp2_with fail
  have hb0 := Joins.below_alloc1 w (.cells #[.slice none 0 0, .int .u64 0, .int .i64 0] 38)
  have z0 := Blk.new w (.slice none 0 0) (.int .u64 0) (.int .i64 0)
  have hsz : (w.alloc (.cells #[.slice none 0 0, .int .u64 0, .int .i64 0] 38)).heap.size = w.heap.size + 1 := by simp
  generalize w.alloc (.cells #[.slice none 0 0, .int .u64 0, .int .i64 0] 38) = W0 at hb0 z0 hsz ⊢
  have HB0 := Lib.hid hb0
  have Z0 := Lib.hid z0
  have HSZ := Lib.hid hsz
  obtain ⟨y, hy2⟩ : ∃ y, y = num (bs.drop n) := ⟨_, rfl⟩
  have hget : Calls Try.prog 39 #[.slice A (n + 8) c, .int .i64 (n : Int), .int .i64 8] W0 fun e w' => e = .returned (.int .u64 (y : Int)) ∧ W0 = w' := by
    have hget := get_any A c w.heap.size n 8 bs W0 (HL.out.below hb0) hc hm0 H8.out (Nat.le_refl _) (by omega)
    rw [List.take_of_length_le (by simp; omega), ← hy2, hn] at hget
    exact hget
  have hy3 := num_lt (bs.drop n) fun c hc => H8.out c (List.mem_of_mem_drop hc)
  rw [List.length_drop, show bs.length - n = 8 by omega, ← hy2] at hy3
  have hy3 : y < 18446744073709551616 := by omega
  have hok : okB n (y / 256) ((y : Int) % 256) = okR bs := by
    unfold okR rawK
    simp only
    rw [show bs.length - 8 = n by omega, ← hy2, List.length_take, Nat.min_eq_left (by omega)]
    rfl
  have hk : (bs.take n).length = n := by rw [List.length_take]; omega
  obtain ⟨A3, c3, W1, hr1, hown, hb1⟩ := fresh_bytes A c _ (bs.take n) W0 ((HL.out.below hb0).front (by rw [List.map_take]; exact List.take_prefix _ _)) (by omega)
  rw [hk] at hr1 hown
  have hband := u64_and_nat y 255 (by omega) (by decide)
  rw [show ((255 : Nat) : Int) = 255 from rfl, show y &&& 255 = y % 2 ^ 8 from Nat.and_two_pow_sub_one_eq_mod y 8] at hband
  have hband2 : bits .and .u64 (y : Int) 255 = (y : Int) % 256 := by rw [hband]; omega
  have hr := fun W => rright_any A3 c3 n (y / 256) ((y : Int) % 256) W
  rw [hok, show ((y / 256 : Nat) : Int) = (y : Int) / 256 by omega] at hr
  obtain ⟨_, _, hv3, hc3, hm3, _⟩ := own_parts hown
  cases hv3
  have HR := Lib.hid hr
  have HG := Lib.hid hget
  have HR1 := Lib.hid hr1
  have HB1 := Lib.hid hb1
  have HO := Lib.hid hown
  have HK := Lib.hid hk
  have HC3 := Lib.hid hc3
  have HM3 := Lib.hid hm3
  have HY2 := Lib.hid hy2
  clear hget hr1 hb1 hown hk hc3 hm3 hy2 hb0 z0 hsz hok hband hr
  refine HG.out.mono ?_; rintro e w' ⟨rfl, rfl⟩
  go_wp2_with (at_builtin; refine wpList_append_run rfl _ _ 25 rfl rfl rfl HR1.out ?_)
  have hb2 := Joins.below_alloc1 W1 (.cells #[.slice A3 n c3, .int .u64 ((y : Int) / 256), .int .i64 ((y : Int) % 256)] 38)
  have z1 := (Z0.out.later HB1.out (by have := HSZ.out; omega)).later hb2 (by have := HSZ.out; have := HB1.out.size; omega)
  have t1 := Blk.new W1 (.slice A3 n c3) (.int .u64 ((y : Int) / 256)) (.int .i64 ((y : Int) % 256))
  have o1 := HO.out.alloc (.cells #[.slice A3 n c3, .int .u64 ((y : Int) / 256), .int .i64 ((y : Int) % 256)] 38)
  have hsz1 : (W1.alloc (.cells #[.slice A3 n c3, .int .u64 ((y : Int) / 256), .int .i64 ((y : Int) % 256)] 38)).heap.size = W1.heap.size + 1 := by simp
  have hb12 := HB1.out.trans (hb2.mono HB1.out.size)
  generalize W1.alloc (.cells #[.slice A3 n c3, .int .u64 ((y : Int) / 256), .int .i64 ((y : Int) % 256)] 38) = W2 at hb2 z1 t1 o1 hsz1 hb12 ⊢
  refine (HR.out _).mono ?_
  rintro e W3 ⟨rfl, hb3⟩
  have z3 := z1.later hb3 (by have := HSZ.out; have := HB1.out.size; omega)
  have t3 := t1.later hb3 (by omega)
  have HB3 := Lib.hid (HB0.out.trans ((hb12.trans (hb3.mono hb12.size)).mono HB0.out.size))
  have O3 := Lib.hid (own_later' o1 hb3)
  have Z3 := Lib.hid z3
  obtain ⟨p0, p1, p2, p3, p4, p5⟩ := z3.facts
  obtain ⟨q0, q1, q2, q3, q4, q5⟩ := t3.facts
  clear hb2 z1 t1 o1 hsz1 hb12 hb3 z3 t3
  by_cases ho : okR bs = true
  · rw [ho]
    go_wp2_with fail
    have hb4 := ((HB3.out.setCell (p := ⟨w.heap.size, 0, none⟩) (Nat.le_refl _) (.slice A3 n c3)).setCell (p := ⟨w.heap.size, 1, none⟩) (Nat.le_refl _) (.int .u64 ((y : Int) / 256))).setCell (p := ⟨w.heap.size, 2, none⟩) (Nat.le_refl _) (.int .i64 ((y : Int) % 256))
    have zb := ((Z3.out.set0 (v0 := .slice A3 n c3)).set1 (v1 := .int .u64 ((y : Int) / 256))).set2 (v2 := .int .i64 ((y : Int) % 256))
    have hl1 : w.heap.size < W0.heap.size := by have := HSZ.out; omega
    have ho4 := ownsRow_setCell_below (ownsRow_setCell_below (ownsRow_setCell_below O3.out (a := ⟨w.heap.size, 0, none⟩) hl1 (.slice A3 n c3)) (a := ⟨w.heap.size, 1, none⟩) hl1 (.int .u64 ((y : Int) / 256))) (a := ⟨w.heap.size, 2, none⟩) hl1 (.int .i64 ((y : Int) % 256))
    generalize ((W3.setCell ⟨w.heap.size, 0, none⟩ (.slice A3 n c3)).setCell ⟨w.heap.size, 1, none⟩ (.int .u64 ((y : Int) / 256))).setCell ⟨w.heap.size, 2, none⟩ (.int .i64 ((y : Int) % 256)) = W4 at hb4 zb ho4 ⊢
    refine bodyPost_ret (results_blk rfl _ _ _ _ _ _ rfl zb) rfl ?_
    have hln := Lies.of_own ho4
    have hlf : LiesP W4 (Sk.Fresh w.heap.size W4) A3 ((bs.take n).map vb) := (LiesP.of_own ho4).later (fun _ _ => rfl) fun k hk => ⟨Nat.le_trans HB0.out.size hk.1, hk.2⟩
    clear zb ho4
    exact told_okF HK.out (by omega) (by omega) ho hb4 HC3.out HM3.out H8.out HY2.out hln hlf
  · have ho' : okR bs = false := by simpa using ho
    rw [ho']
    go_wp2_with fail
    have hb3 := ((HB3.out.setCell (p := ⟨w.heap.size, 0, none⟩) (Nat.le_refl _) (.slice none 0 0)).setCell (p := ⟨w.heap.size, 1, none⟩) (Nat.le_refl _) (.int .u64 0)).setCell (p := ⟨w.heap.size, 2, none⟩) (Nat.le_refl _) (.int .i64 0)
    have zb := ((Z3.out.set0 (v0 := .slice none 0 0)).set1 (v1 := .int .u64 0)).set2 (v2 := .int .i64 0)
    generalize ((W3.setCell ⟨w.heap.size, 0, none⟩ (.slice none 0 0)).setCell ⟨w.heap.size, 1, none⟩ (.int .u64 0)).setCell ⟨w.heap.size, 2, none⟩ (.int .i64 0) = W4 at hb3 zb ⊢
    refine bodyPost_ret (results_blk rfl _ _ _ _ _ _ rfl zb) rfl ?_
    exact told_badF (by omega) ho' hb3

theorem rread_allF (A : Option Addr) (c : Nat) (bs : List Nat) (w : World) (hl : Lies w w.heap.size A (bs.map vb)) (hc : bs.length ≤ c) (hm : c ≤ maxLen) (hb : ∀ x, x ∈ bs → x < 256) (hsmall : bs.length ≤ 140737488354000) :
    Calls Try.prog 75 #[.slice A bs.length c] w (ToldF w bs) := by
  by_cases h : bs.length < 9
  · exact rread_shortF A c bs w h
  · exact rread_anyF A c bs w hl hc hm hb (by omega) hsmall
end Go.Proofs.Ytobjiamdljjkjaa.Ik
