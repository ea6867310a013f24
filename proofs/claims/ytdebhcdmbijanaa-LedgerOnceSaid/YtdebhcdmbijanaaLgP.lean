/- The contracts of package ledger, all together: Check (LgQ4), Post (LgQ7), Balance (LgQ8), Reverse (LgQ9). -/
import Derived.Test.YtdebhcdmbijanaaLgQ9
