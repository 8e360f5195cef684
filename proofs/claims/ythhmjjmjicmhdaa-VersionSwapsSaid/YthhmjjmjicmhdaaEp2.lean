/- Package edit: which runs, files and edits are right. -/
import Derived.Test.YthhmjjmjicmhdaaEp1
import Derived.Laws.BytesString
import Derived.Lib.BytesEntry
import Derived.Lib.Strings
namespace Go.Proofs.Ythhmjjmjicmhdaa.Ed
set_option linter.unusedVariables false
set_option linter.unusedSimpArgs false
open Go.RowKit Lift Ik
theorem obytes_lies {P : Program} {w : World} {B c : Nat} {A : Option Addr} {bs : List Nat} (hl : Lies w B A (bs.map vb)) : Sem.run P (Extern.Bytes.bytesOf (.slice A bs.length c)) w = .ok (str bs) w := by
  have some_ : ∀ ad : Addr, (∀ j u, (bs.map vb)[j]? = some u → w.cell? (ad.add j) = some u) → Sem.run P (Extern.Bytes.bytesOf (.slice (some ad) bs.length c)) w = .ok (str bs) w := by
    intro ad hc
    have h := Lib.run_loadBytesX (P := P) w (bs.map fun b : Nat => (b : Int)) ad .empty (fun j x hj => by
      rw [List.getElem?_map] at hj
      obtain ⟨n, hn, rfl⟩ := Option.map_eq_some_iff.1 hj
      exact cells_at hc j n hn)
    rw [List.length_map] at h
    show Sem.run P (Extern.Bytes.loadBytes ad bs.length .empty) w = _
    rw [h]
    congr 1
    have e : (str bs).data = (u8s bs).toArray := by rw [← str_list]
    have : ∀ b : ByteArray, b.data = (u8s bs).toArray → (⟨ByteArray.empty.data ++ (Lib.bytesOf (bs.map fun b : Nat => (b : Int))).toArray⟩ : ByteArray) = b := by
      intro b hb
      cases b
      simp only at hb
      subst hb
      congr 1
      simp [Lib.bytesOf, u8s, Function.comp_def]
    exact this _ e
  rcases hl with h0 | ⟨ad, rfl, _, hc⟩
  · have hb : bs = [] := by simpa using h0
    subst hb
    rcases A with _ | ad
    · rfl
    · exact some_ ad (by simp)
  · exact some_ ad hc
theorem obytealg_run (A1 A2 : Option Addr) (c1 c2 B1 B2 : Nat) (x y : List Nat) (w : World) (h1 : Lies w B1 A1 (x.map vb)) (h2 : Lies w B2 A2 (y.map vb)) (hx : ∀ a, a ∈ x → a < 256) (hy : ∀ a, a ∈ y → a < 256) :
    Sem.run Try.prog (callFunc 107 #[.slice A1 x.length c1, .slice A2 y.length c2]) w = .ok (.value (.int .i64 (cmpB x y))) w := by
  rw [run_callFunc_extern Try.func107 (by kernel_rfl) (by kernel_rfl) (by kernel_rfl) (e := Extern.BytealgCompare.compare) (by kernel_rfl)]
  have : Sem.run Try.prog (Extern.BytealgCompare.compare #[.slice A1 x.length c1, .slice A2 y.length c2]) w = .ok (.int .i64 (cmpB x y)) w := by
    change Sem.run Try.prog (do pure (goInt (Extern.BytealgCompare.cmp (← Extern.Bytes.bytesOf (.slice A1 x.length c1)) (← Extern.Bytes.bytesOf (.slice A2 y.length c2))))) w = _
    simp only [Sem.run_bind, obytes_lies h1, obytes_lies h2, Sem.run_pure, Result.andThen]
    rw [Lib.cmp_eq, str_list, str_list, compareBytes_eq x y hx hy]
    rfl
  rw [this]
  rfl
theorem obcmp_any (A1 A2 : Option Addr) (c1 c2 B1 B2 : Nat) (x y : List Nat) (w : World) (h1 : Lies w B1 A1 (x.map vb)) (h2 : Lies w B2 A2 (y.map vb)) (hx : ∀ a, a ∈ x → a < 256) (hy : ∀ a, a ∈ y → a < 256) :
    Calls Try.prog 89 #[.slice A1 x.length c1, .slice A2 y.length c2] w fun e w' => e = .returned (.int .i64 (cmpB x y)) ∧ w = w' := by
  have hr := obytealg_run A1 A2 c1 c2 B1 B2 x y w h1 h2 hx hy
  clear h1 h2 hx hy
  go_enter Try.func89, Try.ntmps89
  go_wp2
  go_ret
  exact ⟨rfl, rfl⟩
def okW (x a b : Int) : Bool := decide (a ≤ x ∧ x ≤ b)
theorem within_any (x a b : Int) (w : World) : Calls Try.prog 42 #[.int .i64 x, .int .i64 a, .int .i64 b] w fun e w' => e = .returned (.bool (okW x a b)) ∧ w = w' := by
  by_cases h1 : a ≤ x
  · have t1 : decide (a ≤ x) = true := decide_eq_true h1
    have HY : Hid (okW x a b = decide (x ≤ b)) := Lib.hid (by unfold okW; simp [h1])
    clear h1
    go_enter Try.func42, Try.ntmps42
    go_wp2_with fail
    go_ret
    exact ⟨by rw [HY.out]; rfl, rfl⟩
  · have t1 : decide (a ≤ x) = false := decide_eq_false h1
    have HY : Hid (okW x a b = false) := Lib.hid (by unfold okW; simp [h1])
    clear h1
    go_enter Try.func42, Try.ntmps42
    go_wp2_with fail
    go_ret
    exact ⟨by rw [HY.out]; rfl, rfl⟩
theorem isfile_any (x : Int) (w : World) : Calls Try.prog 73 #[.int .i64 x] w fun e w' => e = .returned (.bool (okF x)) ∧ w = w' := by
  have HW := Lib.hid (within_any x 1 1099511627776 w)
  go_enter Try.func73, Try.ntmps73
  go_wp2_with fail
  refine HW.out.mono ?_
  rintro e w' ⟨rfl, rfl⟩
  go_wp2_with fail
  go_ret
  exact ⟨rfl, rfl⟩
theorem iskey_any (A : Option Addr) (n c : Nat) (w : World) : Calls Try.prog 88 #[.slice A n c] w fun e w' => e = .returned (.bool (okW (n : Int) 1 256)) ∧ w = w' := by
  have HW := Lib.hid (within_any (n : Int) 1 256 w)
  go_enter Try.func88, Try.ntmps88
  go_wp2_with fail
  refine HW.out.mono ?_
  rintro e w' ⟨rfl, rfl⟩
  go_wp2_with fail
  go_ret
  exact ⟨rfl, rfl⟩
set_option maxRecDepth 100000 in
set_option maxHeartbeats 12800000 in
theorem orun_any (d : D) (B : Nat) (w : World) (hd : d.Ok w (· < B)) (hB : B ≤ w.heap.size) :
    Calls Try.prog 71 #[d.v] w fun e w' => e = .returned (.bool (okR d.ru)) ∧ Below w.heap.size w w' := by
  have b1 := i64_of hd.w0
  have b2 := i64_of hd.w1
  have b3 := i64_of hd.w2
  have b4 := hd.sq
  have HB0 := Lib.hid (Joins.below_alloc1 w (.cells #[.int .i64 d.file, .int .i64 d.bytes, .int .i64 d.count, .slice d.firstA d.first.length d.firstC, .slice d.lastA d.last.length d.lastC, .int .u64 (d.seq : Int)] 41))
  have hlt : ∀ k, k < B → (w.alloc (.cells #[.int .i64 d.file, .int .i64 d.bytes, .int .i64 d.count, .slice d.firstA d.first.length d.firstC, .slice d.lastA d.last.length d.lastC, .int .u64 (d.seq : Int)] 41)).heap[k]? = w.heap[k]? := fun k hk => HB0.out.block k (Nat.lt_of_lt_of_le hk hB)
  have HC := Lib.hid (obcmp_any d.firstA d.lastA d.firstC d.lastC B B d.first d.last (w.alloc (.cells #[.int .i64 d.file, .int .i64 d.bytes, .int .i64 d.count, .slice d.firstA d.first.length d.firstC, .slice d.lastA d.last.length d.lastC, .int .u64 (d.seq : Int)] 41))
    ((hd.fl.later hlt fun _ h => h).lies fun _ h => h) ((hd.ll.later hlt fun _ h => h).lies fun _ h => h) hd.f8 hd.l8)
  have H0 := Lib.hid (isfile_any d.file (w.alloc (.cells #[.int .i64 d.file, .int .i64 d.bytes, .int .i64 d.count, .slice d.firstA d.first.length d.firstC, .slice d.lastA d.last.length d.lastC, .int .u64 (d.seq : Int)] 41)))
  have H1 := Lib.hid (within_any d.bytes 1 16777216 (w.alloc (.cells #[.int .i64 d.file, .int .i64 d.bytes, .int .i64 d.count, .slice d.firstA d.first.length d.firstC, .slice d.lastA d.last.length d.lastC, .int .u64 (d.seq : Int)] 41)))
  have H2 := Lib.hid (within_any d.count 1 16777216 (w.alloc (.cells #[.int .i64 d.file, .int .i64 d.bytes, .int .i64 d.count, .slice d.firstA d.first.length d.firstC, .slice d.lastA d.last.length d.lastC, .int .u64 (d.seq : Int)] 41)))
  have H3 := Lib.hid (iskey_any d.firstA d.first.length d.firstC (w.alloc (.cells #[.int .i64 d.file, .int .i64 d.bytes, .int .i64 d.count, .slice d.firstA d.first.length d.firstC, .slice d.lastA d.last.length d.lastC, .int .u64 (d.seq : Int)] 41)))
  have H4 := Lib.hid (iskey_any d.lastA d.last.length d.lastC (w.alloc (.cells #[.int .i64 d.file, .int .i64 d.bytes, .int .i64 d.count, .slice d.firstA d.first.length d.firstC, .slice d.lastA d.last.length d.lastC, .int .u64 (d.seq : Int)] 41)))
  have HY : Hid (okR d.ru = (okF d.file && (okW d.bytes 1 16777216 && (okW d.count 1 16777216 && (okW (d.first.length : Int) 1 256 && (okW (d.last.length : Int) 1 256 && (decide (cmpB d.first d.last ≤ 0) && (decide (1 ≤ (d.seq : Int)) && (decide ((d.seq : Int) ≤ 72057594037927935)))))))))) := Lib.hid (by
    unfold okR D.ru okF okW
    rw [Bool.eq_iff_iff]
    simp only [Bool.and_eq_true, decide_eq_true_eq]
    omega)
  clear hd hlt b1 b2 b3
  obtain ⟨c0, hc0⟩ : ∃ b, b = okF d.file := ⟨_, rfl⟩
  obtain ⟨c1, hc1⟩ : ∃ b, b = okW d.bytes 1 16777216 := ⟨_, rfl⟩
  obtain ⟨c2, hc2⟩ : ∃ b, b = okW d.count 1 16777216 := ⟨_, rfl⟩
  obtain ⟨c3, hc3⟩ : ∃ b, b = okW (d.first.length : Int) 1 256 := ⟨_, rfl⟩
  obtain ⟨c4, hc4⟩ : ∃ b, b = okW (d.last.length : Int) 1 256 := ⟨_, rfl⟩
  obtain ⟨c5, hc5⟩ : ∃ b, b = decide (cmpB d.first d.last ≤ 0) := ⟨_, rfl⟩
  obtain ⟨c6, hc6⟩ : ∃ b, b = decide (1 ≤ (d.seq : Int)) := ⟨_, rfl⟩
  obtain ⟨c7, hc7⟩ : ∃ b, b = decide ((d.seq : Int) ≤ 72057594037927935) := ⟨_, rfl⟩
  rw [← hc0, ← hc1, ← hc2, ← hc3, ← hc4, ← hc5, ← hc6, ← hc7] at HY
  rw [← hc0] at H0
  rw [← hc1] at H1
  rw [← hc2] at H2
  rw [← hc3] at H3
  rw [← hc4] at H4
  have t5 := hc5.symm
  have t6 := hc6.symm
  have t7 := hc7.symm
  have s6 : decide (1 ≤ d.seq) = c6 := by rw [hc6, decide_eq_decide]; omega
  have s7 : decide (d.seq ≤ 72057594037927935) = c7 := by rw [hc7, decide_eq_decide]; omega
  clear hc0 hc1 hc2 hc3 hc4 hc5 hc6 hc7
  go_enter Try.func71, Try.ntmps71
  rcases c0
  · go_wp2_with fail
    refine H0.out.mono ?_
    rintro e w' ⟨rfl, rfl⟩
    go_wp2_with fail
    go_ret
    exact ⟨by rw [HY.out]; rfl, HB0.out⟩
  · rcases c1
    · go_wp2_with fail
      refine H0.out.mono ?_
      rintro e w' ⟨rfl, rfl⟩
      go_wp2_with fail
      refine H1.out.mono ?_
      rintro e w' ⟨rfl, rfl⟩
      go_wp2_with fail
      go_ret
      exact ⟨by rw [HY.out]; rfl, HB0.out⟩
    · rcases c2
      · go_wp2_with fail
        refine H0.out.mono ?_
        rintro e w' ⟨rfl, rfl⟩
        go_wp2_with fail
        refine H1.out.mono ?_
        rintro e w' ⟨rfl, rfl⟩
        go_wp2_with fail
        refine H2.out.mono ?_
        rintro e w' ⟨rfl, rfl⟩
        go_wp2_with fail
        go_ret
        exact ⟨by rw [HY.out]; rfl, HB0.out⟩
      · rcases c3
        · go_wp2_with fail
          refine H0.out.mono ?_
          rintro e w' ⟨rfl, rfl⟩
          go_wp2_with fail
          refine H1.out.mono ?_
          rintro e w' ⟨rfl, rfl⟩
          go_wp2_with fail
          refine H2.out.mono ?_
          rintro e w' ⟨rfl, rfl⟩
          go_wp2_with fail
          refine H3.out.mono ?_
          rintro e w' ⟨rfl, rfl⟩
          go_wp2_with fail
          go_ret
          exact ⟨by rw [HY.out]; rfl, HB0.out⟩
        · rcases c4
          · go_wp2_with fail
            refine H0.out.mono ?_
            rintro e w' ⟨rfl, rfl⟩
            go_wp2_with fail
            refine H1.out.mono ?_
            rintro e w' ⟨rfl, rfl⟩
            go_wp2_with fail
            refine H2.out.mono ?_
            rintro e w' ⟨rfl, rfl⟩
            go_wp2_with fail
            refine H3.out.mono ?_
            rintro e w' ⟨rfl, rfl⟩
            go_wp2_with fail
            refine H4.out.mono ?_
            rintro e w' ⟨rfl, rfl⟩
            go_wp2_with fail
            go_ret
            exact ⟨by rw [HY.out]; rfl, HB0.out⟩
          · rcases c5
            · go_wp2_with fail
              refine H0.out.mono ?_
              rintro e w' ⟨rfl, rfl⟩
              go_wp2_with fail
              refine H1.out.mono ?_
              rintro e w' ⟨rfl, rfl⟩
              go_wp2_with fail
              refine H2.out.mono ?_
              rintro e w' ⟨rfl, rfl⟩
              go_wp2_with fail
              refine H3.out.mono ?_
              rintro e w' ⟨rfl, rfl⟩
              go_wp2_with fail
              refine H4.out.mono ?_
              rintro e w' ⟨rfl, rfl⟩
              go_wp2_with fail
              refine HC.out.mono ?_
              rintro e w' ⟨rfl, rfl⟩
              go_wp2_with fail
              go_ret
              exact ⟨by rw [HY.out]; rfl, HB0.out⟩
            · rcases c6
              · go_wp2_with fail
                refine H0.out.mono ?_
                rintro e w' ⟨rfl, rfl⟩
                go_wp2_with fail
                refine H1.out.mono ?_
                rintro e w' ⟨rfl, rfl⟩
                go_wp2_with fail
                refine H2.out.mono ?_
                rintro e w' ⟨rfl, rfl⟩
                go_wp2_with fail
                refine H3.out.mono ?_
                rintro e w' ⟨rfl, rfl⟩
                go_wp2_with fail
                refine H4.out.mono ?_
                rintro e w' ⟨rfl, rfl⟩
                go_wp2_with fail
                refine HC.out.mono ?_
                rintro e w' ⟨rfl, rfl⟩
                go_wp2_with fail
                go_ret
                exact ⟨by rw [HY.out]; rfl, HB0.out⟩
              · rcases c7
                · go_wp2_with fail
                  refine H0.out.mono ?_
                  rintro e w' ⟨rfl, rfl⟩
                  go_wp2_with fail
                  refine H1.out.mono ?_
                  rintro e w' ⟨rfl, rfl⟩
                  go_wp2_with fail
                  refine H2.out.mono ?_
                  rintro e w' ⟨rfl, rfl⟩
                  go_wp2_with fail
                  refine H3.out.mono ?_
                  rintro e w' ⟨rfl, rfl⟩
                  go_wp2_with fail
                  refine H4.out.mono ?_
                  rintro e w' ⟨rfl, rfl⟩
                  go_wp2_with fail
                  refine HC.out.mono ?_
                  rintro e w' ⟨rfl, rfl⟩
                  go_wp2_with fail
                  go_ret
                  exact ⟨by rw [HY.out]; rfl, HB0.out⟩
                · go_wp2_with fail
                  refine H0.out.mono ?_
                  rintro e w' ⟨rfl, rfl⟩
                  go_wp2_with fail
                  refine H1.out.mono ?_
                  rintro e w' ⟨rfl, rfl⟩
                  go_wp2_with fail
                  refine H2.out.mono ?_
                  rintro e w' ⟨rfl, rfl⟩
                  go_wp2_with fail
                  refine H3.out.mono ?_
                  rintro e w' ⟨rfl, rfl⟩
                  go_wp2_with fail
                  refine H4.out.mono ?_
                  rintro e w' ⟨rfl, rfl⟩
                  go_wp2_with fail
                  refine HC.out.mono ?_
                  rintro e w' ⟨rfl, rfl⟩
                  go_wp2_with fail
                  go_ret
                  exact ⟨by rw [HY.out]; rfl, HB0.out⟩
theorem omake_ints (n : Nat) (hn : n ≤ 1000) (W : World) : Sem.run Try.prog (Instr.makeSlice 23 (.int .i64 (n : Int)) (.int .i64 (n : Int))) W = .ok (.slice (some ⟨W.heap.size, 0, none⟩) n n) (W.alloc (.cells (madeCells #[.int .i64 0] n) 3)) := by
  obtain ⟨i, hi, hz, hs, hb⟩ := info_parts (P := Try.prog) (e := 3) (z := .int .i64 0) (size := 1) (bytes := 8) (by kernel_rfl)
  have h := run_make (P := Try.prog) W 23 3 i (.int .i64 0) Try.underlying23 hi hz .i64 .i64 (n : Int) (n : Int) (by omega) (by omega) (by rw [hb]; omega) (by omega)
  rw [hs, Nat.mul_one] at h
  exact h
theorem filled_kept {w w' : World} {g n k : Nat} {T : TypeId} {L : List Value} (h : Filled w g n k T L) (hk : w'.heap[g]? = w.heap[g]?) : Filled w' g n k T L := by
  obtain ⟨cur, h1, h2⟩ := h
  exact ⟨cur, hk.trans h1, h2⟩
theorem zi_map (L : List D) : (L.map (·.file)).map zi = L.map fun d => zi d.file := by rw [List.map_map]; rfl
set_option maxRecDepth 100000 in
set_option maxHeartbeats 3200000 in
theorem oruns_any (A : Option Addr) (c B : Nat) (L : List D) (w : World) (hL : Runs w B A c L) (hn : L.length ≤ 1000) (hB : B ≤ w.heap.size) :
    Calls Try.prog 40 #[.slice A L.length c] w fun e w' => e = .returned (.bool ((L.map D.ru).all okR && decide (L.map (·.file)).Nodup)) ∧ Below w.heap.size w w' := by
  have HL := Lib.hid hL
  have HM := Lib.hid (omake_ints L.length hn w)
  have hcl := Nat.le_trans hL.len hL.cap
  clear hL
  unfold maxLen at hcl
  go_enter Try.func40, Try.ntmps40
  have hm := HM.out
  go_wp2_with fail
  clear hm
  have HF0 : Hid (Filled (w.alloc (.cells (madeCells #[.int .i64 0] L.length) 3)) w.heap.size L.length 0 3 ((L.map (·.file)).map zi)) := Lib.hid (Filled.start w (.int .i64 0) L.length 3 _)
  have HB0 := Lib.hid (Joins.below_alloc1 w (.cells (madeCells #[.int .i64 0] L.length) 3))
  obtain ⟨g, hg⟩ : ∃ g, g = w.heap.size := ⟨_, rfl⟩
  have HG := Lib.hid hg
  rw [← hg] at HF0 ⊢
  clear hg HM
  generalize w.alloc (.cells (madeCells #[.int .i64 0] L.length) 3) = w0 at *
  go_loopw [11] (fun i wr => ∃ k : Nat, k ≤ L.length ∧ i = .int .i64 (k : Int) ∧ Hid (Filled wr g L.length k 3 ((L.map (·.file)).map zi)) ∧ Hid (Below w.heap.size w wr) ∧ Hid (∀ d, d ∈ L.take k → okR d.ru = true)) (fun i _ => L.length + 1 - (intOf i).toNat)
  case atStart => exact ⟨0, Nat.zero_le _, rfl, HF0, HB0, Lib.hid fun d hd => by simp at hd⟩
  case round =>
    obtain ⟨k, hk, rfl, hf, hb, hall⟩ := hrel
    by_cases hlt : k < L.length
    · obtain ⟨d, hd⟩ : ∃ d, L[k]? = some d := ⟨_, List.getElem?_eq_getElem hlt⟩
      have hR := HL.out.below (hb.out.mono hB)
      obtain ⟨ad, p, rfl, hpb, hpp, q0, q1, q2, q3, q4, q5⟩ := hR.place hd
      have ql := load_run q0 q1 q2 q3 q4 q5
      have HOK := Lib.hid (hR.ok d (List.mem_of_getElem? hd))
      have HD := Lib.hid hd
      clear hd hR hpb
      go_upto_region 5 with fail
      have HBX : Hid (Box (wr.alloc (.cells #[.int .i64 d.file, .int .i64 d.bytes, .int .i64 d.count, .slice d.firstA d.first.length d.firstC, .slice d.lastA d.last.length d.lastC, .int .u64 (d.seq : Int)] 41)) wr.heap.size 41 d.cells) := Lib.hid (Box.new wr 41 d.cells)
      have hba := Joins.below_alloc1 wr (.cells #[.int .i64 d.file, .int .i64 d.bytes, .int .i64 d.count, .slice d.firstA d.first.length d.firstC, .slice d.lastA d.last.length d.lastC, .int .u64 (d.seq : Int)] 41)
      have hgs : g < wr.heap.size := by
        obtain ⟨cur, h1, _⟩ := hf.out
        exact (Array.getElem?_eq_some_iff.1 h1).1
      have HF1 : Hid (Filled (wr.alloc (.cells #[.int .i64 d.file, .int .i64 d.bytes, .int .i64 d.count, .slice d.firstA d.first.length d.firstC, .slice d.lastA d.last.length d.lastC, .int .u64 (d.seq : Int)] 41)) g L.length k 3 ((L.map (·.file)).map zi)) := Lib.hid (filled_kept hf.out (hba.block g hgs))
      have HB1 := Lib.hid (hb.out.trans (hba.mono hb.out.size))
      have HRR := Lib.hid (orun_any d B _ (HOK.out.later (fun j hj => hba.block j (Nat.lt_of_lt_of_le hj (Nat.le_trans hB hb.out.size))) fun _ h => h) (Nat.le_trans hB HB1.out.size))
      obtain ⟨X, hX⟩ : ∃ X, X = wr.heap.size := ⟨_, rfl⟩
      have HGX : Hid (g < X) := Lib.hid (by omega)
      rw [← hX] at HBX ⊢
      clear hba hgs hX ql q0 q1 q2 q3 q4 q5 HOK
      generalize wr.alloc (.cells #[.int .i64 d.file, .int .i64 d.bytes, .int .i64 d.count, .slice d.firstA d.first.length d.firstC, .slice d.lastA d.last.length d.lastC, .int .u64 (d.seq : Int)] 41) = w1 at *
      obtain ⟨b, hbb⟩ : ∃ b, b = okR d.ru := ⟨_, rfl⟩
      rw [← hbb] at HRR
      have HBB := Lib.hid hbb
      have ql : Sem.run Try.prog (loadVar 41 ⟨X, 0, none⟩) w1 = .ok d.v w1 := load_run (HBX.out.cell 0) (HBX.out.cell 1) (HBX.out.cell 2) (HBX.out.cell 3) (HBX.out.cell 4) (HBX.out.cell 5)
      have q0 := HBX.out.cell 0
      have q1 := HBX.out.cell 1
      have q2 := HBX.out.cell 2
      have q3 := HBX.out.cell 3
      have q4 := HBX.out.cell 4
      have q5 := HBX.out.cell 5
      simp only [D.cells, List.getElem?_cons_succ, List.getElem?_cons_zero] at q0 q1 q2 q3 q4 q5
      clear hbb
      go_wp2_with fail
      refine HRR.out.mono ?_
      rintro e w2 ⟨rfl, hb2⟩
      have HF2 : Hid (Filled w2 g L.length k 3 ((L.map (·.file)).map zi)) := Lib.hid (filled_kept HF1.out (hb2.block g (Nat.lt_trans HGX.out HBX.out.lt)))
      have HB2 := Lib.hid (HB1.out.trans (hb2.mono HB1.out.size))
      have HBX2 := Lib.hid (HBX.out.below hb2 HBX.out.lt)
      clear hb2 HF1 HB1 ql q0 q1 q2 q3 q4 q5 HBX HRR
      rcases b
      · have HY : Hid ((L.map D.ru).all okR = false) := Lib.hid (by
          rw [Bool.eq_false_iff]
          intro h
          have h2 := List.all_eq_true.1 h d.ru (List.mem_map_of_mem (List.mem_of_getElem? HD.out))
          rw [← HBB.out] at h2
          cases h2)
        go_wp2_with fail
        go_ret
        exact ⟨by rw [HY.out]; rfl, HB2.out⟩
      · have q0 := HBX2.out.cell 0
        simp only [D.cells, List.getElem?_cons_zero] at q0
        obtain ⟨u, hcell⟩ := HF2.out.cell hlt
        have hfree := HF2.out.free k
        have HF3 := Lib.hid (HF2.out.next hlt (v := zi d.file) (by rw [List.getElem?_map, List.getElem?_map, HD.out]; rfl))
        have HB3 : Hid (Below w.heap.size w (w2.setCell ⟨g, k, none⟩ (zi d.file))) := Lib.hid (HB2.out.setCell (by show w.heap.size ≤ g; rw [HG.out]; exact Nat.le_refl _) _)
        go_wp2_with fail
        go_roundw
        case rel => exact ⟨k + 1, by omega, by go_num, HF3, HB3, Lib.hid fun d' hd' => by
          rw [List.take_add_one, HD.out] at hd'
          rcases List.mem_append.1 hd' with h | h
          · exact hall.out d' h
          · have : d' = d := by simpa using h
            rw [this]; exact HBB.out.symm⟩
        case measure => simp [intOf]; omega
    · obtain rfl : k = L.length := by omega
      have hown := hf.out.own (B := g) (Nat.le_refl _) (by simp) (by unfold maxLen; omega)
      have hl : Lies wr wr.heap.size (some ⟨g, 0, none⟩) ((L.map (·.file)).map zi) := Lies.of_own hown
      have hD := different_any (some ⟨g, 0, none⟩) L.length wr.heap.size (L.map (·.file)) wr hl (Nat.le_refl _) (by rw [List.length_map]; omega)
      rw [List.length_map] at hD
      have HD := Lib.hid hD
      have HY : Hid ((L.map D.ru).all okR = true) := Lib.hid (by
        have h1 := hall.out
        rw [List.take_length] at h1
        rw [List.all_eq_true]
        intro r hr
        obtain ⟨d, hd, rfl⟩ := List.mem_map.1 hr
        exact h1 d hd)
      obtain ⟨b, hbb⟩ : ∃ b, b = decide (L.map (·.file)).Nodup := ⟨_, rfl⟩
      rw [← hbb] at HD
      have HBB := Lib.hid hbb
      clear hown hl hD hbb
      go_wp2_with fail
      refine HD.out.mono ?_
      rintro e w2 ⟨rfl, hb2⟩
      have HB2 := Lib.hid (hb.out.trans (hb2.mono hb.out.size))
      clear hb2 HD
      go_wp2_with fail
      go_ret
      exact ⟨by rw [HY.out, ← HBB.out]; rfl, HB2.out⟩
set_option maxRecDepth 100000 in
set_option maxHeartbeats 3200000 in
theorem ofiles_any (A : Option Addr) (c B : Nat) (zs : List Int) (w : World) (hl : Lies w B A (zs.map zi)) (hc : zs.length ≤ c) (hm : c ≤ maxLen) (hw : ∀ n, n ∈ zs → (Lit.int .i64 n).wf = true) (hn : zs.length ≤ 1000) (hB : B ≤ w.heap.size) :
    Calls Try.prog 41 #[.slice A zs.length c] w fun e w' => e = .returned (.bool (zs.all okF && decide zs.Nodup)) ∧ Below w.heap.size w w' := by
  have HL := Lib.hid hl
  have HW := Lib.hid hw
  clear hl hw
  unfold maxLen at hm
  go_enter Try.func41, Try.ntmps41
  go_wp2_with fail
  go_loopw [7] (fun i wr => ∃ k : Nat, k ≤ zs.length ∧ i = .int .i64 (k : Int) ∧ wr = w ∧ Hid (∀ n, n ∈ zs.take k → okF n = true)) (fun i _ => zs.length + 1 - (intOf i).toNat)
  case atStart => exact ⟨0, Nat.zero_le _, rfl, rfl, Lib.hid fun d hd => by simp at hd⟩
  case round =>
    obtain ⟨k, hk, rfl, rfl, hall⟩ := hrel
    by_cases hlt : k < zs.length
    · obtain ⟨z, hz⟩ : ∃ z, zs[k]? = some z := ⟨_, List.getElem?_eq_getElem hlt⟩
      obtain ⟨ad, rfl, -, hcl⟩ := HL.out.place (by rw [List.length_map]; omega)
      have hc1 := hcl k _ (by rw [List.getElem?_map, hz]; rfl)
      have HZ := Lib.hid hz
      have hwz := i64_of (HW.out z (List.mem_of_getElem? hz))
      have HF := Lib.hid (isfile_any z wr)
      obtain ⟨b, hbb⟩ : ∃ b, b = okF z := ⟨_, rfl⟩
      rw [← hbb] at HF
      have HBB := Lib.hid hbb
      clear hcl hz hbb
      go_wp2_with fail
      refine HF.out.mono ?_
      rintro e w' ⟨rfl, rfl⟩
      rcases b
      · have HY : Hid (zs.all okF = false) := Lib.hid (by
          rw [Bool.eq_false_iff]
          intro h
          have h2 := List.all_eq_true.1 h z (List.mem_of_getElem? HZ.out)
          rw [← HBB.out] at h2
          cases h2)
        go_wp2_with fail
        go_ret
        exact ⟨by rw [HY.out]; rfl, Below.refl _ _⟩
      · go_wp2_with fail
        go_roundw
        case rel => exact ⟨k + 1, by omega, by go_num, by first | trivial | rfl, Lib.hid fun d' hd' => by
          rw [List.take_add_one, HZ.out] at hd'
          rcases List.mem_append.1 hd' with h | h
          · exact hall.out d' h
          · have : d' = z := by simpa using h
            rw [this]; exact HBB.out.symm⟩
        case measure => simp [intOf]; omega
    · obtain rfl : k = zs.length := by omega
      have HD := Lib.hid (different_any A c B zs wr HL.out hB (by omega))
      have HY : Hid (zs.all okF = true) := Lib.hid (by
        have h1 := hall.out
        rw [List.take_length] at h1
        exact List.all_eq_true.2 h1)
      obtain ⟨b, hbb⟩ : ∃ b, b = decide zs.Nodup := ⟨_, rfl⟩
      rw [← hbb] at HD
      have HBB := Lib.hid hbb
      clear hbb
      go_wp2_with fail
      refine HD.out.mono ?_
      rintro e w2 ⟨rfl, hb2⟩
      have HB2 := Lib.hid hb2
      clear hb2 HD
      go_wp2_with fail
      go_ret
      exact ⟨by rw [HY.out, ← HBB.out]; rfl, HB2.out⟩
/-- An edit's cells and what keeps them. -/
structure Wb (w : World) (x : X) (B : Nat) (wr : World) : Prop where
  be : Below w.heap.size w wr
  ok : x.Ok wr B
  bx : Box wr w.heap.size 26 [.slice x.addA x.add.length x.addC, .slice x.dropA x.drop.length x.dropC, .int .i64 x.next, .int .i64 x.log, .int .u64 (x.seq : Int)]
theorem Wb.below {w wr w' : World} {x : X} {B : Nat} (h : Wb w x B wr) (hB : B ≤ w.heap.size) (hb : Below wr.heap.size wr w') : Wb w x B w' :=
  ⟨h.be.trans (hb.mono h.be.size), h.ok.below (hb.mono (Nat.le_trans hB h.be.size)), h.bx.below hb h.bx.lt⟩
theorem Wb.new {w : World} {x : X} {B : Nat} (hx : x.Ok w B) (hB : B ≤ w.heap.size) : Wb w x B (w.alloc (.cells #[.slice x.addA x.add.length x.addC, .slice x.dropA x.drop.length x.dropC, .int .i64 x.next, .int .i64 x.log, .int .u64 (x.seq : Int)] 26)) := by
  have hba := Joins.below_alloc1 w (.cells #[.slice x.addA x.add.length x.addC, .slice x.dropA x.drop.length x.dropC, .int .i64 x.next, .int .i64 x.log, .int .u64 (x.seq : Int)] 26)
  exact ⟨hba, hx.below (hba.mono hB), Box.new w 26 [.slice x.addA x.add.length x.addC, .slice x.dropA x.drop.length x.dropC, .int .i64 x.next, .int .i64 x.log, .int .u64 (x.seq : Int)]⟩
set_option maxRecDepth 100000 in
set_option maxHeartbeats 12800000 in
theorem oright_any (x : X) (B : Nat) (w : World) (hx : x.Ok w B) (hB : B ≤ w.heap.size) :
    Calls Try.prog 16 #[x.v] w fun e w' => e = .returned (.bool (right x.e)) ∧ Below w.heap.size w w' := by
  have b4 := hx.sq
  have b5 := Nat.le_trans hx.add.len hx.add.cap
  have b6 := Nat.le_trans hx.dc hx.dm
  have HW1 := Lib.hid (Wb.new hx hB)
  clear hx
  unfold maxLen at b5 b6
  have q0 := HW1.out.bx.cell 0
  have q1 := HW1.out.bx.cell 1
  simp only [List.getElem?_cons_succ, List.getElem?_cons_zero] at q0 q1
  go_enter Try.func16, Try.ntmps16
  by_cases h0 : 100 < (x.add.length : Int)
  · have t0 : decide (100 < (x.add.length : Int)) = true := decide_eq_true h0
    have s0 : decide (100 < x.add.length) = true := decide_eq_true (by omega)
    have HY : Hid (right x.e = false) := Lib.hid (Bool.eq_false_iff.2 fun h => by have h := right_parts h; unfold okN X.e at h; simp only [decide_eq_true_eq, List.length_map] at h; omega)
    clear h0
    go_wp2_with fail
    go_ret
    exact ⟨by rw [HY.out]; rfl, HW1.out.be⟩
  · have t0 : decide (100 < (x.add.length : Int)) = false := decide_eq_false h0
    have s0 : decide (100 < x.add.length) = false := decide_eq_false (by omega)
    by_cases h1 : 100 < (x.drop.length : Int)
    · have t1 : decide (100 < (x.drop.length : Int)) = true := decide_eq_true h1
      have s1 : decide (100 < x.drop.length) = true := decide_eq_true (by omega)
      have HY : Hid (right x.e = false) := Lib.hid (Bool.eq_false_iff.2 fun h => by have h := right_parts h; unfold okN X.e at h; simp only [decide_eq_true_eq, List.length_map] at h; omega)
      clear h0 h1
      go_wp2_with fail
      go_ret
      exact ⟨by rw [HY.out]; rfl, HW1.out.be⟩
    · have t1 : decide (100 < (x.drop.length : Int)) = false := decide_eq_false h1
      have s1 : decide (100 < x.drop.length) = false := decide_eq_false (by omega)
      have HA : Hid (x.add.length ≤ 1000) := Lib.hid (by omega)
      have HD : Hid (x.drop.length ≤ 1000) := Lib.hid (by omega)
      have HY : Hid (right x.e = (((x.add.map D.ru).all okR && decide (x.add.map (·.file)).Nodup) && ((x.drop.all okF && decide x.drop.Nodup) && (okW x.next 0 1099511627776 && (okW x.log 0 1099511627776 && decide (x.seq ≤ 72057594037927935)))))) := Lib.hid (by
        unfold right X.e okW okN
        simp only [List.length_map, List.map_map]
        rw [decide_eq_true (show x.add.length ≤ 100 by omega), decide_eq_true (show x.drop.length ≤ 100 by omega)]
        simp only [Bool.true_and]
        have e1 : (x.add.map ((fun r : Ru => r.file) ∘ D.ru)) = x.add.map (·.file) := rfl
        rw [e1, Bool.eq_iff_iff]
        simp only [Bool.and_eq_true]
        constructor
        · rintro ⟨k1, k2, k3, k4, k5, k6, k7⟩
          exact ⟨⟨k6, k4⟩, ⟨k7, k5⟩, k1, k2, k3⟩
        · rintro ⟨⟨k6, k4⟩, ⟨k7, k5⟩, k1, k2, k3⟩
          exact ⟨k1, k2, k3, k4, k5, k6, k7⟩)
      clear h0 h1
      have HR := Lib.hid (oruns_any x.addA x.addC B x.add _ HW1.out.ok.add HA.out (Nat.le_trans hB HW1.out.be.size))
      obtain ⟨c0, hc0⟩ : ∃ b, b = ((x.add.map D.ru).all okR && decide (x.add.map (·.file)).Nodup) := ⟨_, rfl⟩
      obtain ⟨c1, hc1⟩ : ∃ b, b = (x.drop.all okF && decide x.drop.Nodup) := ⟨_, rfl⟩
      obtain ⟨c2, hc2⟩ : ∃ b, b = okW x.next 0 1099511627776 := ⟨_, rfl⟩
      obtain ⟨c3, hc3⟩ : ∃ b, b = okW x.log 0 1099511627776 := ⟨_, rfl⟩
      obtain ⟨c4, hc4⟩ : ∃ b, b = decide (x.seq ≤ 72057594037927935) := ⟨_, rfl⟩
      rw [← hc0, ← hc1, ← hc2, ← hc3, ← hc4] at HY
      rw [← hc0] at HR
      have HC1 := Lib.hid hc1
      have HC2 := Lib.hid hc2
      have HC3 := Lib.hid hc3
      have t4 := hc4.symm
      have s4 : decide ((x.seq : Int) ≤ 72057594037927935) = c4 := by rw [hc4, decide_eq_decide]; omega
      clear hc0 hc1 hc2 hc3 hc4
      go_wp2_with fail
      refine HR.out.mono ?_
      rintro e w2 ⟨rfl, hb2⟩
      have HW2 := Lib.hid (HW1.out.below hB hb2)
      clear hb2 HR HW1 q0 q1
      have q0 := HW2.out.bx.cell 0
      have q1 := HW2.out.bx.cell 1
      have q2 := HW2.out.bx.cell 2
      have q3 := HW2.out.bx.cell 3
      have q4 := HW2.out.bx.cell 4
      simp only [List.getElem?_cons_succ, List.getElem?_cons_zero] at q0 q1 q2 q3 q4
      rcases c0
      · go_wp2_with fail
        go_ret
        exact ⟨by rw [HY.out]; rfl, HW2.out.be⟩
      · have HF := Lib.hid (ofiles_any x.dropA x.dropC B x.drop w2 HW2.out.ok.dl HW2.out.ok.dc HW2.out.ok.dm HW2.out.ok.dw HD.out (Nat.le_trans hB HW2.out.be.size))
        rw [← HC1.out] at HF
        clear HC1
        go_wp2_with fail
        refine HF.out.mono ?_
        rintro e w3 ⟨rfl, hb3⟩
        have HW3 := Lib.hid (HW2.out.below hB hb3)
        clear hb3 HF HW2 q0 q1 q2 q3 q4
        have q0 := HW3.out.bx.cell 0
        have q1 := HW3.out.bx.cell 1
        have q2 := HW3.out.bx.cell 2
        have q3 := HW3.out.bx.cell 3
        have q4 := HW3.out.bx.cell 4
        simp only [List.getElem?_cons_succ, List.getElem?_cons_zero] at q0 q1 q2 q3 q4
        rcases c1
        · go_wp2_with fail
          go_ret
          exact ⟨by rw [HY.out]; rfl, HW3.out.be⟩
        · have HN := Lib.hid (within_any x.next 0 1099511627776 w3)
          have HG := Lib.hid (within_any x.log 0 1099511627776 w3)
          rw [← HC2.out] at HN
          rw [← HC3.out] at HG
          clear HC2 HC3
          rcases c2
          · go_wp2_with fail
            refine HN.out.mono ?_
            rintro e w' ⟨rfl, rfl⟩
            go_wp2_with fail
            go_ret
            exact ⟨by rw [HY.out]; rfl, HW3.out.be⟩
          · go_wp2_with fail
            refine HN.out.mono ?_
            rintro e w' ⟨rfl, rfl⟩
            rcases c3
            · go_wp2_with fail
              refine HG.out.mono ?_
              rintro e w' ⟨rfl, rfl⟩
              go_wp2_with fail
              go_ret
              exact ⟨by rw [HY.out]; rfl, HW3.out.be⟩
            · go_wp2_with fail
              refine HG.out.mono ?_
              rintro e w' ⟨rfl, rfl⟩
              rcases c4
              · go_wp2_with fail
                go_ret
                exact ⟨by rw [HY.out]; rfl, HW3.out.be⟩
              · go_wp2_with fail
                go_ret
                exact ⟨by rw [HY.out]; rfl, HW3.out.be⟩
end Go.Proofs.Ythhmjjmjicmhdaa.Ed
