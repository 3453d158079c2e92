import Derived.Test.YtfoflfeaegfnnaaPkSlackMath2
import Derived.Test.YtfoflfeaegfnnaaPkSlackFloat2

/-
  What is known of the latest Begins along a route; of a push, stop by stop. No program's walk here.
-/
namespace Go.Proofs.Ytfoflfeaegfnnaa.Slack
open Go.Proofs.Ytfoflfeaegfnnaa.Order Go.Proofs.Ytfoflfeaegfnnaa.Place Go.Proofs.Ytfoflfeaegfnnaa.Window Go.Proofs.Ytfoflfeaegfnnaa.When
set_option linter.unusedVariables false

theorem latest_len {v : Vh} {l : List (Int × Int)} {t : List Rq} (h : errT v l t = 0) : (latestV v l t).length = l.length := by
  unfold latestV
  rw [if_pos h, latL_length]
  simp [visL]
theorem lat_hd {v : Vh} {l : List (Int × Int)} {t : List Rq} (h : errT v l t = 0) {k : Nat} (hk : k < l.length) : (latestV v l t)[k]? = some (hdL v.en (latL (homeV v) v.en ((visL t l).drop k))) := by
  have hkl : k < (visL t l).length := by simpa [visL] using hk
  have h1 := latL_get (homeV v) v.en (List.getElem?_eq_getElem hkl)
  unfold latestV
  rw [if_pos h, h1, List.drop_eq_getElem_cons hkl, latL, hdL_head]
theorem drop_vis {v : Vh} {l : List (Int × Int)} {t : List Rq} {k : Nat} (hk : k < l.length) : (visL t l).drop k = visN v t l k :: (visL t l).drop (k + 1) := by
  have hkl : k < (visL t l).length := by simpa [visL] using hk
  rw [List.drop_eq_getElem_cons hkl]
  unfold visN
  rw [List.getElem?_eq_getElem hkl]
  rfl
theorem rise_facts {v : Vh} {l : List (Int × Int)} {t : List Rq} (h : errT v l t = 0) {k : Nat} (hk : k < l.length) :
    ∃ A, (latestV v l t)[k]? = some A ∧ (0 ≤ A ∧ A ≤ 1048576) ∧ A ≤ (visN v t l k).wl ∧ (visN v t l k).we ≤ A ∧ A + (visN v t l k).sv ≤ v.en ∧ ∀ j, j + 1 = k → ∃ P, (latestV v l t)[j]? = some P ∧ (0 ≤ P ∧ P ≤ 1048576) ∧ P + (visN v t l j).sv ≤ A := by
  have hf := fine0_of (errT_zero.1 h).1
  have hb := lat_bd h k
  have hfe := feL_drop k ((inTime_iff _ _ _ _).1 (inTime_zero h)).2
  refine ⟨_, lat_hd h hk, hb, ?_, ?_, ?_, fun j hj => ?_⟩
  · rw [drop_vis (v := v) hk, latL, hdL_head]; omega
  · rw [drop_vis (v := v) hk] at hfe ⊢
    exact hfe.1 _ rfl
  · have h1 := lat_end (h := homeV v) (en := v.en) (xs := (visL t l).drop (k + 1)) (fun x hx => hf.okv x (List.mem_of_mem_drop hx))
    have h2 := wy_bd (visN v t l k) (nextV (homeV v) ((visL t l).drop (k + 1)))
    rw [drop_vis (v := v) hk, latL, hdL_head]
    omega
  · subst hj
    have hj : j < l.length := by omega
    have hbj := lat_bd h j
    refine ⟨_, lat_hd h hj, hbj, ?_⟩
    have h2 := wy_bd (visN v t l j) (nextV (homeV v) ((visL t l).drop (j + 1)))
    rw [drop_vis (v := v) hj, latL, hdL_head]
    omega

/-- The request of a stop. -/
theorem stop_req {v : Vh} {l : List (Int × Int)} {t : List Rq} (hin : AllIn t l) {k : Nat} {s : Int × Int} (hs : l[k]? = some s) : ∃ (r : Nat) (q : Rq), s.1 = r ∧ t[r]? = some q ∧ (visN v t l k).sv = q.sv ∧ (s.2 = 0 ∧ (visN v t l k).we = q.pe ∧ (visN v t l k).wl = q.pl ∨ s.2 = 1 ∧ (visN v t l k).we = q.de ∧ (visN v t l k).wl = q.dl) := by
  obtain ⟨x, hx⟩ := hin s (List.mem_of_getElem? hs)
  obtain ⟨q, hq, h1, h2, h3, h4⟩ := visO_some hx
  refine ⟨s.1.toNat, q, by omega, hq, ?_, ?_⟩
  · rw [visN_at hs, (vis_some hx).1, h3]
  · rw [visN_at hs, (vis_some hx).1]
    rcases h4 with ⟨h5, rfl⟩ | ⟨h5, rfl⟩
    · exact .inl ⟨h5, rfl, rfl⟩
    · exact .inr ⟨h5, rfl, rfl⟩

end Go.Proofs.Ytfoflfeaegfnnaa.Slack
