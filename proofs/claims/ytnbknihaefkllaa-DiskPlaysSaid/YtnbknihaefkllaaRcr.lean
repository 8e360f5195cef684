/- The document's own disk: a crash, round by round. -/
import Derived.Test.YtnbknihaefkllaaRapp
import Derived.Test.YtnbknihaefkllaaDdcrash
namespace Go.Proofs.Ytnbknihaefkllaa.Rk
set_option linter.unusedVariables false
set_option linter.unusedSimpArgs false
open Go.RowKit Go.Maps Lift Ik Dk

theorem crash_step {l : List FM} {j : Nat} {f : FM} (k : Nat) (h : l[j]? = some f) : ((l.take j).map (crm k) ++ l.drop j).set j (crm k f) = (l.take (j + 1)).map (crm k) ++ l.drop (j + 1) := by
  have hlt := (List.getElem?_eq_some_iff.1 h).1
  have hl : ((l.take j).map (crm k)).length = j := by rw [List.length_map, List.length_take]; omega
  rw [List.set_append_right _ _ (by omega), hl, Nat.sub_self, Ik.drop_cons h, List.set_cons_zero, List.take_add_one, h]
  simp
theorem set_map {L : List D} {i : Nat} {d : D} : (L.set i d).map D.m = (L.map D.m).set i d.m := List.map_set
section
variable {w w' : World} {g : Nat} {S S' T : Nat → Prop} {rm : Int} {m : MS} {L : List D} {A F : Option Addr} {c cf : Nat}
/-- How many of a file's bytes are synced is written. -/
theorem Lay.syn {W : World} {i gl s : Nat} {d : D} (h : Lay W g S rm m L (some ⟨gl, 0, none⟩) F c cf) (hd : L[i]? = some d) (hs : s ≤ d.bs.length) :
    Lay (W.setCell ⟨gl, i * 3 + 2, none⟩ (.int .i64 (s : Int))) g S rm { m with fs := put1 m.fs ⟨d.nm, d.bs, s⟩ } (L.set i ⟨d.nm, d.a, d.c, d.bs, s⟩) (some ⟨gl, 0, none⟩) F c cf := by
  have hlt := (List.getElem?_eq_some_iff.1 hd).1
  have hcl := cellsL_set L i d ⟨d.nm, d.a, d.c, d.bs, s⟩ hd rfl
  have hlen := cellsL_length L
  have hkk : Keep (fun k => (Value.slice (some (⟨gl, 0, none⟩ : Addr)) L.length c).ownBlock = some k) W (W.setCell ⟨gl, i * 3 + 2, none⟩ (.int .i64 (s : Int))) := (Keep.refl (fun k => (Value.slice (some (⟨gl, 0, none⟩ : Addr)) L.length c).ownBlock = some k) W).setCell (p := ⟨gl, i * 3 + 2, none⟩) (.inr rfl) _
  have hown := own_set (u := .int .i64 (s : Int)) h.own (show i * 3 + 2 < (cellsL L).length by rw [hlen]; omega)
  have hset : (cellsL L).set (i * 3 + 1) (.slice d.a d.bs.length d.c) = cellsL L := set_same (cellsL_at hd 1 (by omega))
  have ok := h.ok d (List.mem_of_getElem? hd)
  refine h.put (S' := S) (d' := ⟨d.nm, d.a, d.c, d.bs, s⟩) hd rfl hkk (by rw [hcl]; simp only; rw [hset]; exact hown) ?_ (fun _ => id) (fun k hk => by have := h.lt k hk; simpa [World.setCell] using this)
  have o2 := ok.keep hkk (fun k hk _ hh => by
    obtain ⟨cs, fr, hh⟩ := hh
    rcases h.own.2 with ⟨h0, _⟩ | ⟨b, cap, cur, hv', _, hh', _⟩
    · cases h0
    · injection hv' with e1
      injection e1 with e1
      injection e1 with e1
      subst e1
      have e2 : gl = k := by simpa [Value.ownBlock] using hk
      subst e2
      exact typed hh' hh (by decide)) (S' := S) fun _ => id
  exact ⟨o2.lies, o2.cap, o2.max, o2.byte, o2.len, hs, o2.nm⟩
end
end Go.Proofs.Ytnbknihaefkllaa.Rk
